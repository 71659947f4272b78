/- Late. -/
import Derived.Test.YtcfenakafcfjbaaSrt
import Derived.Lib.Hide
namespace Go.Proofs.Ytcfenakafcfjbaa
open Go.RowKit Go.ChangeShapes Go.WideShapes Go.ChangeAt Go.Deep Go.Maps Go.Sort

/-- Those that were not heard of since then. -/
def lateP (F : Int → Option Int) (s x : Int) : Prop := I64 x ∧ ∃ t, F x = some t ∧ t < s
/-- Late's answer. -/
def LateP (w : World) (N : Nat) (S : Int → Prop) (e : Ending) (w' : World) : Prop := ∃ v R, e = .returned v ∧ w'.ownsRow w.heap.size 3 1 v R.length (iV R) ∧ R.Pairwise (· < ·) ∧ (∀ x, x ∈ R ↔ S x) ∧ R.length ≤ N ∧ Below w.heap.size w w'

/-- What the range has collected. -/
structure CI (F : Int → Option Int) (s : Int) (m : Nat) (left : Lit → Bool) (cnt : Nat) (L : List Int) : Prop where
  len : L.length + cnt ≤ m
  nod : L.Nodup
  mem : ∀ x, x ∈ L ↔ lateP F s x ∧ left (.int .i64 x) = false

theorem same_i (x y : Int) : (Lit.int .i64 y).sameKey (.int .i64 x) = decide (y = x) := by
  by_cases e : y = x
  · subst e; simp [WideAt.sameKey_self (isKeyI _)]
  · rw [Maps.sameKey_ne (lit_ne e)]; simp [e]
theorem CI.yes {F : Int → Option Int} {s : Int} {m : Nat} {left : Lit → Bool} {cnt cnt' : Nat} {L : List Int} {x c : Int} (h : CI F s m left cnt L) (hx : I64 x) (hl : left (.int .i64 x) = true) (hF : F x = some c) (hs : c < s) (hc : cnt' < cnt) :
    CI F s m (fun z => left z && !z.sameKey (.int .i64 x)) cnt' (L ++ [x]) := by
  refine ⟨by have := h.len; simp; omega, ?_, fun y => ?_⟩
  · rw [List.nodup_append]
    refine ⟨h.nod, by simp, fun a ha b hb e => ?_⟩
    simp only [List.mem_singleton] at hb
    have := ((h.mem a).1 ha).2
    rw [e, hb, hl] at this
    cases this
  · rw [same_i x y, List.mem_append, h.mem y, List.mem_singleton]
    by_cases e : y = x
    · subst e; simp; exact ⟨hx, c, hF, hs⟩
    · simp [e]
theorem CI.no {F : Int → Option Int} {s : Int} {m : Nat} {left : Lit → Bool} {cnt cnt' : Nat} {L : List Int} {x c : Int} (h : CI F s m left cnt L) (hF : F x = some c) (hs : ¬ c < s) (hc : cnt' < cnt) :
    CI F s m (fun z => left z && !z.sameKey (.int .i64 x)) cnt' L := by
  refine ⟨by have := h.len; omega, h.nod, fun y => ?_⟩
  rw [same_i x y, h.mem y]
  by_cases e : y = x
  · subst e
    simp only [decide_true, Bool.not_true, Bool.and_false, and_true]
    constructor
    · exact fun h => h.1
    · rintro ⟨_, t, h1, h2⟩
      rw [hF] at h1
      cases h1
      exact absurd h2 hs
  · simp [e]

theorem has_of_ranges {w : World} {b r n : Nat} {D : DataW Unit} {left : Lit → Bool} {cnt : Nat} {kl : Lit} (h : w.ranges Try.prog 3 PE b r n D left cnt) (hl : left kl = true) : Maps.has D kl = true := by
  obtain ⟨es, clock, since, seen, c0, hb, F, hs, rfl, hr, hold, hc, hl1, hl2, hsc, hsk⟩ := h
  obtain ⟨x, hx, rfl⟩ := hl2 kl hl
  obtain ⟨y, hy⟩ := F.reads x hx
  exact List.any_eq_true.2 ⟨WideElems.rg Try.prog 3 PE x, mem_sorted.2 (List.mem_map.2 ⟨x, hx, rfl⟩), WideAt.sameKey_self (by rw [WideElems.rg_of hy]; exact law3.key (WideElems.rd_key hy))⟩

theorem own_belowI {w w' : World} {B n : Nat} {v : Value} {xs : List Value} (h : w.ownsRow B 3 1 v n xs) (hb : Below w.heap.size w w') : w'.ownsRow B 3 1 v n xs := own_below h hb
theorem own_monoI {w : World} {B B' n : Nat} {v : Value} {xs : List Value} (h : w.ownsRow B 3 1 v n xs) (hB : B' ≤ B) : w.ownsRow B' 3 1 v n xs := by
  refine ⟨h.1, ?_⟩
  rcases h.2 with h2 | ⟨g, cap, cur, e, h1, h2⟩
  · exact .inl h2
  · exact .inr ⟨g, cap, cur, e, Nat.le_trans hB h1, h2⟩

/-- 'append(v, y...)', v the call's own row of ints, y a slice of ints that is read, nil or not. -/
theorem append_ints {w : World} {ops : Array Oper} {rest : List Oper} {o : Oper} {a : Act} {Q : Exit → Act → World → Prop} (hgd : o.guard = none) (s x : Operand)
    (ho : o.op = .call { callee := .builtin .append, args := #[s, x], argTypes := #[22, 22] })
    (base : Nat) (v : Value) (n : Nat) (xs : List Int) (hs : a.eval s = v) (hown : w.ownsRow base 3 1 v n (iV xs))
    (ad : Option Addr) (m c : Nat) (ys : List Int) (hx : a.eval x = .slice ad m c) (hnil : ad = none → m = 0 ∧ c = 0) (hl : ys.length = m) (hr : Reads w ad (iV ys))
    (hb : n + m ≤ 1000000) (hbase : base ≤ w.heap.size)
    (h : ∀ v' w', w'.ownsRow base 3 1 v' (n + m) (iV (xs ++ ys)) → w.grownBy w' v.ownBlock → wpList Try.prog ops Q rest (a.put o.dst v') w') :
    wpList Try.prog ops Q (o :: rest) a w := by
  obtain ⟨i0, hi, hz0, hz1, hz2⟩ := info_parts Try.info3
  cases ad with
  | none =>
    obtain ⟨rfl, rfl⟩ := hnil rfl
    have hy : ys = [] := by cases ys with | nil => rfl | cons _ _ => simp at hl
    subst hy
    refine wpList_append_own_none hgd s x 22 ho base 3 i0 1 Try.underlying22 hi v n (iV xs) hs hown hx ?_
    exact h v w (by simpa using hown) ⟨rfl, rfl, rfl, Nat.le_refl _, fun _ _ _ => rfl⟩
  | some ad =>
    refine wpList_append_own _ hgd s x 22 ho base 3 i0 (.int .i64 0) 1 8 Try.underlying22 hi hz0 hz1 hz2 rfl (by decide) v n (iV xs) hs hown ad m c (iV ys) hx (by rw [iV_length]; omega) ?_ (iV_one ys) (by unfold maxLen; omega) (by omega) hbase ?_
    · rcases hr with hr | ⟨b, off, e, hr⟩
      · rw [hr]; simp
      · simp at e
        subst e
        intro j u hu
        rw [add_none]; exact hr j u hu
    · intro v' w' h1 h2 h3
      exact h v' w' (by simpa [iV] using h1) h2

theorem own_reads {w : World} {B n : Nat} {v : Value} {xs : List Int} (h : w.ownsRow B 3 1 v n (iV xs)) :
    ∃ a cap, v = .slice a n cap ∧ n ≤ cap ∧ Reads w a (iV xs) ∧ xs.length = n ∧ (0 < n → ∃ g, a = some ⟨g, 0, none⟩ ∧ B ≤ g ∧ g < w.heap.size) := by
  obtain ⟨a, cap, rfl, h1, h2⟩ := own_form h
  have hl : xs.length = n := by have := h.1; rw [iV_length] at this; omega
  refine ⟨a, cap, rfl, h1, ?_, hl, h2⟩
  rcases Nat.eq_zero_or_pos n with e | e
  · have : xs = [] := List.eq_nil_of_length_eq_zero (by omega)
    subst this
    exact .inl rfl
  · obtain ⟨g, rfl, _, _⟩ := h2 e
    refine .inr ⟨g, 0, rfl, fun j u hu => ?_⟩
    have := h.cells (g := g) rfl j u hu
    rwa [add_none] at this

theorem late_no (w : World) {E : Cl} {cb N : Nat} {wt : Int} {F G : Int → Option Int} (_h : BeM E w cb wt N F G) (now : Int) (hq : okT now = false) :
    Calls Try.prog 15 #[.pointer (some ⟨cb, 0, none⟩), .int .i64 now] w (LateP w N (fun x => okT now = true ∧ lateP F (now - max 1 wt) x)) := by
  have C22 := hide (may_any (w.alloc (.cells #[.int .i64 now] 3)) [now] (some ⟨w.heap.size, 0, none⟩) 1 1 rfl (by omega) (reads1 w now))
  have HB := hide (below_new w (.cells #[.int .i64 now] 3))
  have HQ := hide hq
  have e : [now].all okT = false := by simp [hq]
  rw [e] at C22
  clear hq e
  go_enter Try.func15, Try.ntmps15
  go_wp2_with (go_at_call 22; go_must ((with_reducible refine C22.out.mono ?_); rintro e w1 ⟨rfl, hw1⟩; subst hw1))
  go_ret
  refine ⟨_, [], rfl, World.ownsRow_nil _ _ _ _, List.Pairwise.nil, fun x => ?_, Nat.zero_le _, HB.out⟩
  rw [HQ.out]; simp

set_option maxRecDepth 100000 in
set_option maxHeartbeats 2000000 in
theorem late_yes (w : World) {E : Cl} {cb N : Nat} {wt : Int} {F G : Int → Option Int} (h : BeM E w cb wt N F G) (hN : N ≤ 100000) (now : Int) (hq : okT now = true) :
    Calls Try.prog 15 #[.pointer (some ⟨cb, 0, none⟩), .int .i64 now] w (LateP w N (fun x => okT now = true ∧ lateP F (now - max 1 wt) x)) := by
  have C22 := hide (may_any (w.alloc (.cells #[.int .i64 now] 3)) [now] (some ⟨w.heap.size, 0, none⟩) 1 1 rfl (by omega) (reads1 w now))
  have hb := below_new w (.cells #[.int .i64 now] 3)
  have HQ := hide hq
  have e : [now].all okT = true := by simp [hq]
  rw [e] at C22
  obtain ⟨h1, h2, hw, v1, v2, hB, hF, hG, h6⟩ := h.below hb
  obtain ⟨c0, f0⟩ := hB.at (o := 0) rfl
  obtain ⟨c1, f1⟩ := hB.at (o := 1) rfl
  have HNow : Hid (0 ≤ now ∧ now ≤ 1099511627776) := hide (by simpa [okT] using hq)
  have HWt := hide hw
  have HB := hide hb
  obtain ⟨W, hW⟩ : ∃ W, W = w.alloc (.cells #[.int .i64 now] 3) := ⟨_, rfl⟩
  rw [← hW] at c0 c1 HB hF
  have HWW := hide hW
  clear hG h6 h1 hB e hq hb h hw hW
  go_enter Try.func15, Try.ntmps15
  go_upto_region 3 with (go_at_call 22; go_must ((with_reducible refine C22.out.mono ?_); rintro e w1 ⟨rfl, hw1⟩; subst hw1))
  rw [← HWW.out]
  go_upto_region 4 with fail
  have hs0 : wrap64 (now - max 1 wt) = now - max 1 wt := by have := HNow.out; have := HWt.out; unfold I64 at this; unfold wrap64; omega
  rw [hs0]
  obtain ⟨s, hs⟩ : ∃ s, s = now - max 1 wt := ⟨_, rfl⟩
  obtain ⟨mx, hmx⟩ : ∃ m, m = max 1 wt := ⟨_, rfl⟩
  rw [← hs]
  rw [← hmx]
  have HS := hide hs
  have HSW := hide (show I64 s from by have := HNow.out; have := HWt.out; unfold I64 at *; omega)
  clear hs0 hs hmx
  rcases hF with ⟨rfl, hF0⟩ | ⟨b, D, rfl, hown, hz, hF⟩
  · have hrg := run_range_nilMap (P := Try.prog) W 40 3 3 Try.underlying40
    have hnx : ∀ ty, (Instr.next (.pointer (some ⟨W.heap.size, 0, none⟩)) false ty).run Try.prog (W.alloc (.mapIter none 0 #[] 0)) = _ := fun ty => run_next_nilMap W ty 0 0 #[]
    have HB2 := hide (below_new W (.mapIter none 0 #[] 0))
    have C25 := hide (Try.slices_Sort_int_none none 0 (W.alloc (.mapIter none 0 #[] 0)))
    have HF := hide hF0
    clear hF0
    go_wp2
    refine wp_loop_rounds 1 ?_
    rw [rounds_succ]
    go_wp2_with (go_at_call 25; go_must ((with_reducible refine C25.out.mono ?_); rintro e w1 ⟨rfl, hw1⟩; subst hw1))
    go_ret
    refine ⟨_, [], rfl, World.ownsRow_nil _ _ _ _, List.Pairwise.nil, fun x => ?_, Nat.zero_le _, HB.out.trans (HB2.out.mono HB.out.size)⟩
    simp only [List.not_mem_nil, false_iff]
    rintro ⟨_, hx, t, h1, _⟩
    rw [HF.out x hx] at h1
    cases h1
  · have HF := hide hF
    have HZ := hide hz
    have hblt := hown.lt
    clear hF hz
    go_wp2_with (at_range; refine wpList_range_own _ rfl _ 40 rfl 3 3 law3 Try.underlying40 _ b _ D rfl hown ?_; intro w0 hrg0 hg0 hs0)
    go_frame
    go_loopw [6, 7, 8] (fun v _ _ wr => ∃ (left : Lit → Bool) (cnt : Nat) (L : List Int) (a : Option Addr) (c : Nat), v = .slice a L.length c ∧ Hid (wr.ranges Try.prog 3 PE b W.heap.size (Maps.size D) D left cnt ∧ CI F s (Maps.size D) left cnt L ∧ wr.ownsRow W.heap.size 3 1 (.slice a L.length c) L.length (iV L) ∧ Below W.heap.size W wr)) (fun _ _ _ wr => wr.rangeLeft b W.heap.size)
    case atStart => 
      refine ⟨_, _, [], none, 0, rfl, hide ⟨hrg0, ⟨by simp, List.nodup_nil, fun x => ?_⟩, World.ownsRow_nil _ _ _ _, below_of hg0⟩⟩
      simp only [List.not_mem_nil, false_iff]
      rintro ⟨⟨hx, t, h1, _⟩, h2⟩
      rw [(HF.out x hx).1, h1] at h2
      cases h2
    case round =>
      obtain ⟨left, cnt, L, a, c, rfl, HI⟩ := hrel
      have hrg := HI.out.1
      go_wp2_with (at_next; refine wpList_next_ranges_ii _ rfl _ rfl 3 3 .i64 .i64 law3 Try.underlying3 Try.underlying3 b W.heap.size _ D _ _ rfl hrg ?_ ?_)
      · intro _ hl0
        have hmem : ∀ x, x ∈ L ↔ lateP F s x := fun x => by rw [HI.out.2.1.mem x, hl0]; simp
        have hlen := HI.out.2.1.len
        have C25 := hide (sort_own HI.out.2.2.1 (by have := HZ.out; omega))
        have HMM := hide hmem
        have HLN := hide hlen
        clear hmem hl0 hlen hrg
        go_wp2_with (go_at_call 25; go_must ((with_reducible refine C25.out.mono ?_); rintro e w2 ⟨rfl, ho, hg⟩; have HO := hide ho; have HG := hide hg; clear ho hg))
        go_ret
        have hll : (srt L).length = L.length := (srt_perm L).length_eq
        refine ⟨_, srt L, rfl, ?_, srt_rise L HI.out.2.1.nod, fun x => ?_, by rw [hll]; have := HLN.out; have := HZ.out; omega, ?_⟩
        · rw [hll]; exact own_monoI HO.out HB.out.size
        · rw [(srt_perm L).mem_iff, HMM.out x, ← HS.out]
          exact ⟨fun h => ⟨HQ.out, h⟩, fun h => h.2⟩
        · exact HB.out.trans ((HI.out.2.2.2.grown HG.out HI.out.2.2.2.size (fun q hq => (HI.out.2.2.1.lt q hq).1)).mono HB.out.size)
      · intro x cc w1 cnt1 hwx hwc hlx hat hrg1 hlt hg1 hs1 hen
        have hx : I64 x := of_wf hwx
        have hFx : F x = some cc := by
          have h1 := (HF.out x hx).1
          have h2 := (HF.out x hx).2
          rw [has_of_ranges HI.out.1 hlx] at h1
          rw [hat] at h2
          obtain ⟨t, ht⟩ := Option.isSome_iff_exists.1 h1.symm
          rw [ht] at h2 ⊢
          have h3 : cc = t := by simpa using h2
          rw [h3]
        have ho1 : w1.ownsRow W.heap.size 3 1 (.slice a L.length c) L.length (iV L) := HI.out.2.2.1.kept hg1 (.inr (fun e => row_ne_iter HI.out.2.2.1 HI.out.1 e.symm))
        have hb1 : Below W.heap.size W w1 := HI.out.2.2.2.grown hg1 HI.out.2.2.2.size (fun q hq => by cases hq; exact Nat.le_refl _)
        have hlen := HI.out.2.1.len
        have hL1 := HZ.out
        have HHG := hide hlt
        have HLE := hide hrg.left_eq
        by_cases hcs : cc < s
        · have HCI := hide (HI.out.2.1.yes hx hlx hFx hcs hlt)
          have hn1 := below_new w1 (.cells #[.int .i64 x] 3)
          have ho2 := own_below ho1 hn1
          have hrg2 := hide (hrg1.alloc (.cells #[.int .i64 x] 3))
          have HB1 := hide hb1
          clear hs1 hwx hwc hlx hat hFx hrg hx
          go_wp2_with (at_builtin; go_must (refine append_ints rfl (.tmp 33) (.tmp 35) rfl W.heap.size _ L.length L rfl ho2 (some ⟨w1.heap.size, 0, none⟩) 1 1 [x] rfl (fun e => by cases e) rfl (reads_new w1 [.int .i64 x] 3) (by omega) (by have := hb1.size; simp; omega) ?_; intro v3 w3 ho3 hg3; refine Hid.out ?_))
          refine Lib.hid ?_
          have hrg4 := hrg2.out.kept hg3 (row_ne_low ho2 hblt) (row_ne_iter ho2 hrg2.out)
          have HR4 := hide hrg4
          have HLE4 := hide hrg4.left_eq
          have hb3 := (HB1.out.trans (hn1.mono HB1.out.size)).grown hg3 (by have := HB1.out.size; simp; omega) (fun q hq => (ho2.lt q hq).1)
          have HB3 := hide hb3
          obtain ⟨a5, c5, rfl, _, _⟩ := own_form ho3
          have hl5 : L.length + 1 = (L ++ [x]).length := by simp
          have HO5 := hide ho3
          have HL5 := hide hl5
          clear ho3 hl5 hg3 hb3 hrg4
          go_wp2_with fail
          go_roundw
          case rel => exact ⟨_, cnt1, L ++ [x], a5, c5, by rw [← HL5.out], by refine Lib.hid ?_; rw [← HL5.out]; exact ⟨HR4.out, HCI.out, HO5.out, HB3.out⟩⟩
          case measure => rw [HLE4.out, HLE.out]; exact HHG.out
        · have HCI := hide (HI.out.2.1.no hFx hcs hlt)
          have HR1 := hide hrg1
          have HLE1 := hide hrg1.left_eq
          have HO1 := hide ho1
          have HB1 := hide hb1
          clear hs1 hwx hwc hlx hat hFx hrg hx hrg1 ho1 hb1 hlt hg1
          go_wp2_with fail
          go_roundw
          case rel => exact ⟨_, cnt1, L, a, c, rfl, hide ⟨HR1.out, HCI.out, HO1.out, HB1.out⟩⟩
          case measure => rw [HLE1.out, HLE.out]; exact HHG.out
end Go.Proofs.Ytcfenakafcfjbaa
