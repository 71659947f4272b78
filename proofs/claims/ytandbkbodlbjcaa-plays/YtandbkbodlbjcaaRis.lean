/- Names in rising order out of a set: rising, Going. -/
import Derived.Test.YtandbkbodlbjcaaAlv
namespace Go.Proofs.Ytandbkbodlbjcaa
open Go.RowKit Go.ChangeShapes Go.WideShapes Go.ChangeAt Go.Deep Go.Maps Go.Sort

/-- A row of the call's own that holds just these names, rising. -/
def RisP (S : ByteArray → Prop) (w : World) (e : Ending) (w' : World) : Prop := ∃ v R, e = .returned v ∧ w'.ownsRow w.heap.size 31 1 v R.length (nV R) ∧ R.Pairwise ltB ∧ (∀ x, x ∈ R ↔ S x) ∧ R.length ≤ 1000 ∧ Below w.heap.size w w'

theorem sort_ris (L : List ByteArray) (ad : Option Addr) (cap : Nat) (w : World) (hr : Reads w ad (nV L)) (hlen : L.length ≤ 1000) (hnil : ad = none → L.length = 0) (hsz : ∀ s ∈ L, s.size ≤ 12) : Calls Try.prog 46 #[.slice ad L.length cap] w (RisP (fun x => x ∈ L) w) := by
  refine (sort_any L ad cap w hr hlen hnil (fun s hs => by have := hsz s hs; omega)).mono ?_
  rintro e w' ⟨v, rfl, ho, hb⟩
  rw [eV_nV, ← sorts_eq] at ho
  have hl : (sortU (ssOf L)).length = (sortR L).length := by rw [sorts_eq]; simp
  rw [hl] at ho
  obtain ⟨h1, h2⟩ := fold_rise L [] (by simp)
  exact ⟨v, sortR L, rfl, ho, h1, fun x => by have := h2 x; simp at this; exact this, by have := fold_len L []; simp at this; unfold sortR; omega, hb⟩

theorem keyOf_string_inv {P : Program} {k : TypeId} (hk : P.underlying k = some .string) {key : Value} {kl : Lit} (h : keyOf P k key = some kl) : ∃ x : ByteArray, key = .string x ∧ kl = .string x.data.toList ∧ x.size ≤ maxLen := by
  cases key <;> simp [keyOf, hk, mapKey] at h
  obtain ⟨h1, rfl⟩ := h
  exact ⟨_, rfl, rfl, h1⟩

/-- The step of a range over a set of names. -/
theorem wpList_next_set (w : World) {ops : Array Oper} {rest : List Oper} {o : Oper} {a : Act} {Q : Exit → Act → World → Prop} (hg : o.guard = none) (it : Operand) (hop : o.op = Op.next it false)
    (b r n : Nat) (D : DataW Unit) (left : Lit → Bool) (cnt : Nat) (hit : a.eval it = .pointer (some ⟨r, 0, none⟩)) (h : w.ranges Try.prog 31 (unitElem (H := Unit)) b r n D left cnt)
    (hDone : cnt = 0 → (∀ kl, left kl = false) → wpList Try.prog ops Q rest (a.put o.dst (.tuple #[.bool false])) w)
    (hMore : ∀ (x : ByteArray) (w' : World) (cnt' : Nat), left (.string x.data.toList) = true → w'.ranges Try.prog 31 (unitElem (H := Unit)) b r n D (fun z => left z && !z.sameKey (.string x.data.toList)) cnt' → cnt' < cnt →
      w.grownBy w' (some r) → w'.heap.size = w.heap.size → (Instr.entry (.pointer (some ⟨r, 0, none⟩))).run Try.prog w' = .ok (.tuple #[.string x, .agg #[]]) w' → wpList Try.prog ops Q rest (a.put o.dst (.tuple #[.bool true, .string x, .agg #[]])) w') :
    wpList Try.prog ops Q (o :: rest) a w :=
  wpList_next_ranges w hg it hop 31 law31 (unitElem (H := Unit)) Value.string (fun _ : Unit => Value.agg #[]) (fun key kl hkey => by obtain ⟨x, rfl, _⟩ := keyOf_string_inv Try.underlying31 hkey; exact ⟨x, rfl⟩) (fun v y hv => by obtain ⟨rfl, _⟩ := unitElem_inv hv; exact ⟨(), rfl⟩)
    b r n D left cnt hit h hDone (fun x c kl y w' cnt' hkey hlk hv hat hrg hlt hgr hsz hen => by
      obtain ⟨x', ex, rfl, _⟩ := keyOf_string_inv Try.underlying31 hkey
      cases ex
      exact hMore x w' cnt' hlk hrg hlt hgr hsz hen)

theorem has_of_ranges {w : World} {b r n : Nat} {D : DataW Unit} {left : Lit → Bool} {cnt : Nat} {kl : Lit} (h : w.ranges Try.prog 31 (unitElem (H := Unit)) b r n D left cnt) (hl : left kl = true) : Maps.has D kl = true := by
  obtain ⟨es, clock, since, seen, c0, hb, F, hs, rfl, hr, hold, hc, hl1, hl2, hsc, hsk⟩ := h
  obtain ⟨x, hx, rfl⟩ := hl2 kl hl
  obtain ⟨y, hy⟩ := F.reads x hx
  exact List.any_eq_true.2 ⟨WideElems.rg Try.prog 31 unitElem x, mem_sorted.2 (List.mem_map.2 ⟨x, hx, rfl⟩), WideAt.sameKey_self (by rw [WideElems.rg_of hy]; exact law31.key (WideElems.rd_key hy))⟩

/-- What the range has collected. -/
structure CI (S : List ByteArray) (left : Lit → Bool) (cnt : Nat) (L : List ByteArray) : Prop where
  len : L.length + cnt ≤ S.length
  mem : ∀ x, x ∈ L ↔ x ∈ S ∧ left (.string x.data.toList) = false

theorem CI.step {S : List ByteArray} {left : Lit → Bool} {cnt cnt' : Nat} {L : List ByteArray} {x : ByteArray} (h : CI S left cnt L) (hx : x ∈ S) (hc : cnt' < cnt) : CI S (fun z => left z && !z.sameKey (.string x.data.toList)) cnt' (L ++ [x]) := by
  refine ⟨by have := h.len; simp; omega, fun y => ?_⟩
  have hs : ∀ y : ByteArray, (Lit.string y.data.toList).sameKey (.string x.data.toList) = decide (y = x) := fun y => by
    by_cases e : y = x
    · subst e; simp [WideAt.sameKey_self (isKeyS _)]
    · rw [Maps.sameKey_ne (lit_ne e)]; simp [e]
  rw [hs y, List.mem_append, h.mem y, List.mem_singleton]
  by_cases e : y = x
  · subst e; simp [hx]
  · simp [e]

set_option maxRecDepth 100000 in
set_option maxHeartbeats 4000000 in
theorem rising_any (w : World) (cb o : Nat) (v : Value) (S : List ByteArray) (hc : w.cell? ⟨cb, o, none⟩ = some v) (h : SetM w v S) (hl : S.length ≤ 1000) :
    Calls Try.prog 50 #[.pointer (some ⟨cb, o, none⟩)] w (RisP (fun x => x ∈ S) w) := by
  obtain ⟨hS, hz, h⟩ := h
  rcases h with ⟨rfl, rfl⟩ | ⟨b, D, rfl, hown, hh, hsz⟩
  · have hrg := run_range_nilMap (P := Try.prog) w 50 31 78 Try.underlying50
    have hnx : ∀ ty, (Instr.next (.pointer (some ⟨w.heap.size, 0, none⟩)) false ty).run Try.prog (w.alloc (.mapIter none 0 #[] 0)) = _ := fun ty => run_next_nilMap w ty 0 0 #[]
    have HB := hide (below_new w (.mapIter none 0 #[] 0))
    have C46 := hide (show Calls Try.prog 46 #[.slice none 0 0] (w.alloc (.mapIter none 0 #[] 0)) (RisP (fun x => x ∈ ([] : List ByteArray)) (w.alloc (.mapIter none 0 #[] 0))) from sort_ris [] none 0 _ (.inl rfl) (by decide) (fun _ => rfl) (fun s hs => by cases hs))
    unfold RisP at C46
    go_enter Try.func50, Try.ntmps50
    go_upto_region 2 with fail
    go_wp2
    refine wp_loop_rounds 1 ?_
    rw [rounds_succ]
    go_wp2_with (go_at_call 46; ((with_reducible refine C46.out.mono ?_); rintro e w2 ⟨v2, R, rfl, ho, hR1, hR2, hRl, hb2⟩; have HO := hide ho; have HB2 := hide hb2; have HR1 := hide hR1; have HR2 := hide hR2; have HRL := hide hRl; clear ho hb2 hR1 hR2 hRl))
    go_ret
    refine ⟨v2, R, rfl, own_monoN HO.out HB.out.size, HR1.out, HR2.out, HRL.out, HB.out.trans (HB2.out.mono HB.out.size)⟩
  · have HC := hide hc
    have HL := hide hl
    have HH := hide hh
    have HSZ := hide hsz
    have HZ := hide hz
    have hblt := hown.lt
    clear hl hh hz hsz
    go_enter Try.func50, Try.ntmps50
    go_wp2_with (at_range; refine wpList_range_own _ rfl _ 50 rfl 31 78 law31 Try.underlying50 _ b _ D rfl hown ?_; intro w0 hrg0 hg0 hs0)
    go_frame
    go_loopw [3] (fun v wr => ∃ (left : Lit → Bool) (cnt : Nat) (L : List ByteArray) (a : Option Addr) (c : Nat), v = .slice a L.length c ∧ Hid (wr.ranges Try.prog 31 (unitElem (H := Unit)) b w.heap.size (Maps.size D) D left cnt ∧ CI S left cnt L ∧ wr.ownsRow w.heap.size 31 1 (.slice a L.length c) L.length (nV L) ∧ Below w.heap.size w wr)) (fun _ wr => wr.rangeLeft b w.heap.size)
    case atStart => exact ⟨_, _, [], none, 0, rfl, hide ⟨hrg0, ⟨by rw [HSZ.out]; simp, fun x => by rw [HH.out x]; simp; intro hx; exact inB_iff.2 hx⟩, World.ownsRow_nil _ _ _ _, below_of hg0⟩⟩
    case round =>
      obtain ⟨left, cnt, L, a, c, rfl, HI⟩ := hrel
      have hrg := HI.out.1
      go_wp2_with (at_next; refine wpList_next_set _ rfl _ rfl b w.heap.size _ D _ _ rfl hrg ?_ ?_)
      · intro _ hl0
        have hmem : ∀ x, x ∈ L ↔ x ∈ S := fun x => by rw [HI.out.2.1.mem x, hl0]; simp
        obtain ⟨a', c', e', hRN, _⟩ := own_formS HI.out.2.2.1
        simp only [Value.slice.injEq, true_and] at e'
        obtain ⟨rfl, rfl⟩ := e'
        have hlen := HI.out.2.1.len
        have C46 := hide (sort_ris L a c wr hRN.reads (by have := HL.out; omega) (fun e => by subst e; exact hRN.none_nil.1) (fun s hs => HZ.out s ((hmem s).1 hs)))
        unfold RisP at C46
        have HMM := hide hmem
        clear hmem hRN hl0 hlen hrg
        go_wp2_with (go_at_call 46; ((with_reducible refine C46.out.mono ?_); rintro e w2 ⟨v2, R, rfl, ho, hR1, hR2, hRl, hb2⟩; have HO := hide ho; have HB2 := hide hb2; have HR1 := hide hR1; have HR2 := hide hR2; have HRL := hide hRl; clear ho hb2 hR1 hR2 hRl))
        go_ret
        refine ⟨v2, R, rfl, own_monoN HO.out HI.out.2.2.2.size, HR1.out, fun x => (HR2.out x).trans (HMM.out x), HRL.out, HI.out.2.2.2.trans (HB2.out.mono HI.out.2.2.2.size)⟩
      · intro x w1 cnt1 hlx hrg1 hlt hg1 hs1 hen
        have hxS : x ∈ S := by
          have : Maps.has D (.string x.data.toList) = true := by
            exact has_of_ranges HI.out.1 hlx
          rw [HH.out x] at this
          exact inB_iff.1 this
        have ho1 : w1.ownsRow w.heap.size 31 1 (.slice a L.length c) L.length (nV L) := HI.out.2.2.1.kept hg1 (.inr (fun e => row_ne_iter HI.out.2.2.1 HI.out.1 e.symm))
        have hb1 : Below w.heap.size w w1 := HI.out.2.2.2.grown hg1 HI.out.2.2.2.size (fun q hq => by cases hq; exact Nat.le_refl _)
        have hlen := HI.out.2.1.len
        have HCI := hide (HI.out.2.1.step hxS hlt)
        have hn1 := below_new w1 (.cells #[.string x] 31)
        have ho2 := own_belowN ho1 hn1
        have hrg2 := hide (hrg1.alloc (.cells #[.string x] 31))
        have hL1 := HL.out
        have HB1 := hide hb1
        have HHG := hide hlt
        have HLE := hide hrg.left_eq
        clear hs1
        go_wp2_with (at_builtin; go_must (refine append_names rfl (.tmp 14) (.tmp 16) rfl w.heap.size _ L.length L rfl ho2 (some ⟨w1.heap.size, 0, none⟩) 1 1 [x] rfl (fun e => by cases e) rfl (reads_new w1 [.string x] 31) (by omega) (by have := hb1.size; simp; omega) ?_; intro v3 w3 ho3 hg3; refine Hid.out ?_))
        refine Lib.hid ?_
        have hrg4 := hrg2.out.kept hg3 (row_ne_low ho2 hblt) (row_ne_iter ho2 hrg2.out)
        have HR4 := hide hrg4
        have HLE4 := hide hrg4.left_eq
        have hb3 := (HB1.out.trans (hn1.mono HB1.out.size)).grown hg3 (by have := HB1.out.size; simp; omega) (fun q hq => (ho2.lt q hq).1)
        have HB3 := hide hb3
        obtain ⟨a5, c5, rfl, _, _⟩ := own_formS ho3
        have hl5 : L.length + 1 = (L ++ [x]).length := by simp
        have HO5 := hide ho3
        have HL5 := hide hl5
        clear ho3 hl5 hg3 hb3 hrg4
        go_wp2_with fail
        go_roundw
        case rel => exact ⟨_, cnt1, L ++ [x], a5, c5, by rw [← HL5.out], by refine Lib.hid ?_; rw [← HL5.out]; exact ⟨HR4.out, HCI.out, HO5.out, HB3.out⟩⟩
        case measure => rw [HLE4.out, HLE.out]; exact HHG.out

set_option maxRecDepth 100000 in
theorem going_pass (w : World) (cb : Nat) (S : ByteArray → Prop) (C : Calls Try.prog 50 #[.pointer (some ⟨cb, 1, none⟩)] w (RisP S w)) : Calls Try.prog 29 #[.pointer (some ⟨cb, 1, none⟩)] w (RisP S w) := by
  have C50 := hide C
  clear C
  unfold RisP at C50
  go_enter Try.func29, Try.ntmps29
  go_wp2_with (go_at_call 50; ((with_reducible refine C50.out.mono ?_); rintro e w2 ⟨v2, R, rfl, ho, hR1, hR2, hRl, hb2⟩; have HO := hide ho; have HB2 := hide hb2; have HR1 := hide hR1; have HR2 := hide hR2; have HRL := hide hRl; clear ho hb2 hR1 hR2 hRl))
  go_ret
  exact ⟨v2, R, rfl, HO.out, HR1.out, HR2.out, HRL.out, HB2.out⟩
theorem tab_going {κ : Cl} {w : World} {cb : Nat} {T : Tb} (h : TabM κ w cb T) (hl : T.goi.length ≤ 1000) : Calls Try.prog 29 #[.pointer (some ⟨cb, 1, none⟩)] w (RisP (fun x => x ∈ T.goi) w) := by
  obtain ⟨h1, h2, vr, vg, vp, va, h3, h4, h5, h6, h7⟩ := h
  exact going_pass w cb _ (rising_any w cb 1 vg T.goi (h3.at rfl).1 h5.1 hl)
end Go.Proofs.Ytandbkbodlbjcaa
