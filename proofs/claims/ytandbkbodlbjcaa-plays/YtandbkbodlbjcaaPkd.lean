/- A table's parked tasks: Parked. -/
import Derived.Test.YtandbkbodlbjcaaWak
namespace Go.Proofs.Ytandbkbodlbjcaa
open Go.RowKit Go.ChangeShapes Go.WideShapes Go.ChangeAt Go.Deep Go.Maps Go.Sort

theorem sameS (x y : ByteArray) : (Lit.string y.data.toList).sameKey (.string x.data.toList) = decide (y = x) := by
  by_cases e : y = x
  · subst e; simp [WideAt.sameKey_self (isKeyS _)]
  · rw [Maps.sameKey_ne (lit_ne e)]; simp [e]

/-- The step of a range over rows of names. -/
theorem wpList_next_bag (w : World) {ops : Array Oper} {rest : List Oper} {o : Oper} {a : Act} {Q : Exit → Act → World → Prop} (hg : o.guard = none) (it : Operand) (hop : o.op = Op.next it false)
    (b r n : Nat) (D : DataW Value) (left : Lit → Bool) (cnt : Nat) (hit : a.eval it = .pointer (some ⟨r, 0, none⟩)) (h : w.ranges Try.prog 31 heldR b r n D left cnt)
    (F : ByteArray → Option Addr → Nat → Nat → Prop) (hF : ∀ on : ByteArray, ∃ a n c, D.atKey (.string on.data.toList) (.held (.slice none 0 0)) = .held (.slice a n c) ∧ F on a n c)
    (hDone : cnt = 0 → (∀ kl, left kl = false) → wpList Try.prog ops Q rest (a.put o.dst (.tuple #[.bool false])) w)
    (hMore : ∀ (x : ByteArray) (a2 : Option Addr) (n2 c2 : Nat) (w' : World) (cnt' : Nat), F x a2 n2 c2 → left (.string x.data.toList) = true → w'.ranges Try.prog 31 heldR b r n D (fun z => left z && !z.sameKey (.string x.data.toList)) cnt' → cnt' < cnt →
      w.grownBy w' (some r) → w'.heap.size = w.heap.size → (Instr.entry (.pointer (some ⟨r, 0, none⟩))).run Try.prog w' = .ok (.tuple #[.string x, .slice a2 n2 c2]) w' → wpList Try.prog ops Q rest (a.put o.dst (.tuple #[.bool true, .string x, .slice a2 n2 c2])) w') :
    wpList Try.prog ops Q (o :: rest) a w :=
  wpList_next_ranges w hg it hop 31 law31 heldR Value.string (fun v : Value => v) (fun key kl hkey => by obtain ⟨x, rfl, _⟩ := keyOf_string_inv Try.underlying31 hkey; exact ⟨x, rfl⟩) (fun v y _ => ⟨v, rfl⟩)
    b r n D left cnt hit h hDone (fun x c kl y w' cnt' hkey hlk hv hat hrg hlt hgr hsz hen => by
      obtain ⟨x', ex, rfl, _⟩ := keyOf_string_inv Try.underlying31 hkey
      cases ex
      obtain ⟨a2, n2, c2, e, hf⟩ := hF x
      rw [hat] at e
      simp only [heldR, Option.some.injEq] at hv
      rw [← hv] at e
      simp only [DataW.held.injEq] at e
      subst e
      exact hMore x a2 n2 c2 w' cnt' hf hlk hrg hlt hgr hsz hen)

/-- Those that are not to come any more. -/
def come (p : Pk) (left : Lit → Bool) : Pk := p.filter fun q => !left (.string q.2.data.toList)
theorem come_step (p : Pk) (left : Lit → Bool) (x : ByteArray) (h : left (.string x.data.toList) = true) : (come p (fun z => left z && !z.sameKey (.string x.data.toList))).length = (come p left).length + (kids p x).length := by
  induction p with
  | nil => rfl
  | cons a r ih =>
    by_cases e : a.2 = x
    · have e1 : kids (a :: r) x = a.1 :: kids r x := by simp [kids, e]
      have e2 : come (a :: r) left = come r left := by simp [come, e, h]
      have e3 : come (a :: r) (fun z => left z && !z.sameKey (.string x.data.toList)) = a :: come r (fun z => left z && !z.sameKey (.string x.data.toList)) := by
        simp [come, e, sameS]
      rw [e1, e2, e3]; simp; omega
    · have e1 : kids (a :: r) x = kids r x := by simp [kids, e]
      rw [e1]
      cases hl : left (.string a.2.data.toList)
      · have e2 : come (a :: r) left = a :: come r left := by simp [come, hl]
        have e3 : come (a :: r) (fun z => left z && !z.sameKey (.string x.data.toList)) = a :: come r (fun z => left z && !z.sameKey (.string x.data.toList)) := by
          simp [come, hl]
        rw [e2, e3]; simp; omega
      · have e2 : come (a :: r) left = come r left := by simp [come, hl]
        have e3 : come (a :: r) (fun z => left z && !z.sameKey (.string x.data.toList)) = come r (fun z => left z && !z.sameKey (.string x.data.toList)) := by
          simp [come, hl, sameS, e]
        rw [e2, e3]; omega
theorem come_mem (p : Pk) (left : Lit → Bool) (x y : ByteArray) : (∃ q ∈ come p (fun z => left z && !z.sameKey (.string x.data.toList)), q.1 = y) ↔ (∃ q ∈ come p left, q.1 = y) ∨ y ∈ kids p x := by
  simp only [come, kids, List.mem_filter, List.mem_map, sameS]
  constructor
  · rintro ⟨q, ⟨hq, h1⟩, rfl⟩
    by_cases e : q.2 = x
    · exact .inr ⟨q, ⟨hq, by simp [e]⟩, rfl⟩
    · refine .inl ⟨q, ⟨hq, ?_⟩, rfl⟩
      simpa [e] using h1
  · rintro (⟨q, ⟨hq, h1⟩, rfl⟩ | ⟨q, ⟨hq, h1⟩, rfl⟩)
    · refine ⟨q, ⟨hq, ?_⟩, rfl⟩
      have : left (.string q.2.data.toList) = false := by simpa using h1
      simp [this]
    · refine ⟨q, ⟨hq, ?_⟩, rfl⟩
      have : q.2 = x := by simpa using h1
      simp [this]
theorem come_all (p : Pk) (left : Lit → Bool) (h : ∀ kl, left kl = false) : come p left = p := by
  unfold come
  rw [List.filter_eq_self]
  intro q _
  simp [h]
theorem come_none (p : Pk) (left : Lit → Bool) (h : ∀ q ∈ p, left (.string q.2.data.toList) = true) : come p left = [] := by
  unfold come
  rw [List.filter_eq_nil_iff]
  intro q hq
  simp [h q hq]

set_option maxRecDepth 100000 in
set_option maxHeartbeats 4000000 in
theorem parked_any {κ : Cl} {w : World} {cb : Nat} {T : Tb} (h : TabM κ w cb T) (hp : T.prk.length ≤ 1000) :
    Calls Try.prog 28 #[.pointer (some ⟨cb, 2, none⟩)] w (RisP (fun x => ∃ q ∈ T.prk, q.1 = x) w) := by
  obtain ⟨h1, h2, vr, vg, vp, va, h3, h4, h5, h6, h7⟩ := h
  have hc := (h3.at (o := 2) rfl).1
  have HP := hide hp
  have HS := hide h6.1
  rcases h6.2 with ⟨rfl, hpe⟩ | ⟨b, D, rfl, hb, hown, hz, hons⟩
  · have HPE := hide hpe
    have hrg := run_range_nilMap (P := Try.prog) w 55 31 27 Try.underlying55
    have hnx : ∀ ty, (Instr.next (.pointer (some ⟨w.heap.size, 0, none⟩)) false ty).run Try.prog (w.alloc (.mapIter none 0 #[] 0)) = _ := fun ty => run_next_nilMap w ty 0 0 #[]
    have HB := hide (below_new w (.mapIter none 0 #[] 0))
    have C46 := hide (show Calls Try.prog 46 #[.slice none 0 0] (w.alloc (.mapIter none 0 #[] 0)) (RisP (fun x => x ∈ ([] : List ByteArray)) (w.alloc (.mapIter none 0 #[] 0))) from sort_ris [] none 0 _ (.inl rfl) (by decide) (fun _ => rfl) (fun s hs => by cases hs))
    unfold RisP at C46
    clear h1 h2 h3 h4 h5 h6 h7 hp hpe
    go_enter Try.func28, Try.ntmps28
    go_upto_region 2 with fail
    go_wp2
    refine wp_loop_rounds 1 ?_
    rw [rounds_succ]
    go_wp2_with (go_at_call 46; ((with_reducible refine C46.out.mono ?_); rintro e w2 ⟨v2, R, rfl, ho, hR1, hR2, hRl, hb2⟩; have HO := hide ho; have HB2 := hide hb2; have HR1 := hide hR1; have HR2 := hide hR2; have HRL := hide hRl; clear ho hb2 hR1 hR2 hRl))
    go_ret
    refine ⟨v2, R, rfl, own_monoN HO.out HB.out.size, HR1.out, fun x => (HR2.out x).trans ?_, HRL.out, HB.out.trans (HB2.out.mono HB.out.size)⟩
    rw [HPE.out]; simp
  · have hblt := hown.lt
    have HON := hide hons
    have hstart : come T.prk (Maps.has D) = [] := come_none _ _ (fun q hq => by
      cases hh : Maps.has D (.string q.2.data.toList) with
      | true => rfl
      | false =>
        obtain ⟨a, n, c, e, hr, _⟩ := hons q.2
        rw [atKey_of_not_has hh] at e
        simp only [DataW.held.injEq, Value.slice.injEq] at e
        obtain ⟨rfl, rfl, rfl⟩ := e
        have : kids T.prk q.2 = [] := List.eq_nil_of_length_eq_zero hr.1
        have hm : q.1 ∈ kids T.prk q.2 := by
          unfold kids
          exact List.mem_map.2 ⟨q, List.mem_filter.2 ⟨hq, by simp⟩, rfl⟩
        rw [this] at hm
        cases hm)
    have HST := hide hstart
    clear h1 h2 h3 h4 h5 h6 h7 hp hz hstart hons
    go_enter Try.func28, Try.ntmps28
    go_wp2_with (at_range; refine wpList_range_own _ rfl _ 55 rfl 31 27 law31 Try.underlying55 _ b _ D rfl hown ?_; intro w0 hrg0 hg0 hs0)
    go_frame
    go_loopw [3] (fun v wr => ∃ (left : Lit → Bool) (cnt : Nat) (O : List ByteArray) (a : Option Addr) (c : Nat), v = .slice a O.length c ∧ Hid (wr.ranges Try.prog 31 heldR b w.heap.size (Maps.size D) D left cnt ∧ (O.length = (come T.prk left).length ∧ ∀ x, x ∈ O ↔ ∃ q ∈ come T.prk left, q.1 = x) ∧ wr.ownsRow w.heap.size 31 1 (.slice a O.length c) O.length (nV O) ∧ Below w.heap.size w wr)) (fun _ wr => wr.rangeLeft b w.heap.size)
    case atStart => exact ⟨_, _, [], none, 0, rfl, hide ⟨hrg0, ⟨by rw [HST.out]; rfl, fun x => by rw [HST.out]; simp⟩, World.ownsRow_nil _ _ _ _, below_of hg0⟩⟩
    case round =>
      obtain ⟨left, cnt, O, a, c, rfl, HI⟩ := hrel
      have hrg := HI.out.1
      go_wp2_with (at_next; refine wpList_next_bag _ rfl _ rfl b w.heap.size _ D _ _ rfl hrg (fun on a n c => RN w a n c (kids T.prk on) ∧ ∀ k, blk a = some k → κ k = some (.bag on)) HON.out ?_ ?_)
      · intro _ hl0
        have hmem : ∀ x, x ∈ O ↔ ∃ q ∈ T.prk, q.1 = x := fun x => by rw [HI.out.2.1.2 x, come_all _ _ hl0]
        have hlen : O.length ≤ 1000 := by rw [HI.out.2.1.1, come_all _ _ hl0]; exact HP.out
        obtain ⟨a', c', e', hRN, _⟩ := own_formS HI.out.2.2.1
        simp only [Value.slice.injEq, true_and] at e'
        obtain ⟨rfl, rfl⟩ := e'
        have C46 := hide (sort_ris O a c wr hRN.reads hlen (fun e => by subst e; exact hRN.none_nil.1) (fun s hs => by obtain ⟨q, hq, rfl⟩ := (hmem s).1 hs; exact (HS.out q hq).1))
        unfold RisP at C46
        have HMM := hide hmem
        clear hmem hRN hl0 hlen hrg
        go_wp2_with (go_at_call 46; ((with_reducible refine C46.out.mono ?_); rintro e w2 ⟨v2, R, rfl, ho, hR1, hR2, hRl, hb2⟩; have HO := hide ho; have HB2 := hide hb2; have HR1 := hide hR1; have HR2 := hide hR2; have HRL := hide hRl; clear ho hb2 hR1 hR2 hRl))
        go_ret
        refine ⟨v2, R, rfl, own_monoN HO.out HI.out.2.2.2.size, HR1.out, fun x => (HR2.out x).trans (HMM.out x), HRL.out, HI.out.2.2.2.trans (HB2.out.mono HI.out.2.2.2.size)⟩
      · intro x a2 n2 c2 w1 cnt1 hF _ hlx hrg1 hlt hg1 hs1 hen
        have ho1 : w1.ownsRow w.heap.size 31 1 (.slice a O.length c) O.length (nV O) := HI.out.2.2.1.kept hg1 (.inr (fun e => row_ne_iter HI.out.2.2.1 HI.out.1 e.symm))
        have hb1 : Below w.heap.size w w1 := HI.out.2.2.2.grown hg1 HI.out.2.2.2.size (fun q hq => by cases hq; exact Nat.le_refl _)
        have hR2 : RN w1 a2 n2 c2 (kids T.prk x) := hF.below hb1
        have hn2 : (kids T.prk x).length = n2 := hF.1
        have hst := come_step T.prk left x hlx
        have hlen : O.length + n2 ≤ 1000 := by
          have h8 := HI.out.2.1.1
          have h9 : (come T.prk (fun z => left z && !z.sameKey (.string x.data.toList))).length ≤ T.prk.length := List.length_filter_le _ _
          have := HP.out
          omega
        have HMM := hide (show ∀ y, y ∈ O ++ kids T.prk x ↔ ∃ q ∈ come T.prk (fun z => left z && !z.sameKey (.string x.data.toList)), q.1 = y from fun y => by
          rw [come_mem T.prk left x y, List.mem_append, HI.out.2.1.2 y])
        have HLN := hide (show (O ++ kids T.prk x).length = (come T.prk (fun z => left z && !z.sameKey (.string x.data.toList))).length by rw [hst, List.length_append, HI.out.2.1.1])
        have hbz := hb1.size
        have HB1 := hide hb1
        have HHG := hide hlt
        have HLE := hide hrg.left_eq
        have HR2 := hide hR2
        have HRG1 := hide hrg1
        clear hs1 hst hb1 hlt hF
        go_wp2_with (at_builtin; go_must (refine append_names rfl (.tmp 15) (.tmp 16) rfl w.heap.size _ O.length O rfl ho1 a2 n2 c2 (kids T.prk x) rfl (fun e => by subst e; exact HR2.out.none_nil) hn2 HR2.out.reads (by omega) (by omega) ?_; intro v3 w3 ho3 hg3; refine Hid.out ?_))
        refine Lib.hid ?_
        have hrg4 := HRG1.out.kept hg3 (row_ne_low ho1 hblt) (row_ne_iter ho1 HRG1.out)
        have HR4 := hide hrg4
        have HLE4 := hide hrg4.left_eq
        have HB3 := hide (HB1.out.grown hg3 HB1.out.size (fun q hq => (ho1.lt q hq).1))
        obtain ⟨a5, c5, rfl, _, _⟩ := own_formS ho3
        have HO5 := hide ho3
        have HL5 := hide (show O.length + n2 = (O ++ kids T.prk x).length by rw [List.length_append, hn2])
        clear ho3 hg3 hrg4 hR2 hn2 hlen
        go_wp2_with fail
        go_roundw
        case rel => exact ⟨_, cnt1, O ++ kids T.prk x, a5, c5, by rw [← HL5.out], by refine Lib.hid ?_; rw [← HL5.out]; exact ⟨HR4.out, ⟨HL5.out.trans HLN.out, HMM.out⟩, HO5.out, HB3.out⟩⟩
        case measure => rw [HLE4.out, HLE.out]; exact HHG.out
end Go.Proofs.Ytandbkbodlbjcaa
