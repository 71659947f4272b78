/- IdentSorts answers true: its walk. -/
import Derived.Test.YtbnefomabbepbaaSame
import Derived.Test.YtbnefomabbepbaaCommonR
import Derived.SliceStrings
namespace Go.Proofs.Ytbnefomabbepbaa
open Go.RowKit Go.ChangeShapes Go.WideShapes Go.ChangeAt Go.Deep Go.Sort

theorem arg_names {H : Type} {enc : TypeId × Value → H} {W : World} {t e : TypeId} (ht : Try.prog.underlying t = some (.slice e)) (he : Try.prog.underlying e = some .string) (hc : Try.prog.cellsOf e = 1)
    {a : Option Addr} {len cap : Nat} {d : DataW H} {p : List MemPlace} (h : DataW.Trod enc Try.prog W 0 (fun _ => true) true t (.slice a len cap) d p) :
    ∃ ns : List ByteArray, ns.length = len ∧ len ≤ cap ∧ (cap ≤ maxLen ∧ (a = none → len = 0 ∧ cap = 0)) ∧ Reads W a (nV ns) ∧ ∀ s ∈ ns, s.size ≤ maxLen := by
  obtain ⟨fuel, hf⟩ := h
  rcases open_strings ht he hc hf with ⟨hcs, _⟩ | ⟨x, l, c, zs, hcs, _, hl, hm, hz, _, hcell, hwz⟩
  · simp [Value.cells] at hcs
    obtain ⟨rfl, rfl, rfl⟩ := hcs
    exact ⟨[], rfl, Nat.le_refl _, ⟨by unfold maxLen; omega, fun _ => ⟨rfl, rfl⟩⟩, .inl rfl, fun s hs => by cases hs⟩
  · simp [Value.cells] at hcs
    obtain ⟨rfl, rfl, rfl⟩ := hcs
    have hzl : zs.length = cap := by simpa using hz
    refine ⟨zs.take len, by simp; omega, hl, ⟨hm, fun h => by cases h⟩, ?_, fun s hs => hwz s (List.mem_of_mem_take hs)⟩
    by_cases h0 : len = 0
    · exact .inl (by simp [nV, h0])
    · have hz0 := hcell 0 (by omega)
      obtain ⟨b, off, rfl⟩ := reads_plain hz0 ⟨_, hz0⟩
      refine .inr ⟨b, off, rfl, fun j u hu => ?_⟩
      have hj : j < len := by
        rcases Nat.lt_or_ge j len with h | h
        · exact h
        · rw [List.getElem?_eq_none (by simp [nV]; omega)] at hu; cases hu
      have hjz : j < zs.length := by omega
      have := hcell j hjz
      rw [add_none] at this
      rw [this]
      simp [nV, hj, hjz] at hu
      subst hu
      simp [List.getD, hjz]

theorem stored_own {w : World} {B g n cap j : Nat} {xs : List Value} (v : Value) (ho : w.ownsRow B 22 1 (.slice (some ⟨g, 0, none⟩) n cap) n xs) :
    (w.setCell ⟨g, j, none⟩ v).ownsRow B 22 1 (.slice (some ⟨g, 0, none⟩) n cap) n (xs.set j v) ∧ w.grownBy (w.setCell ⟨g, j, none⟩ v) (some g) := ho.stored j v

set_option maxRecDepth 100000 in
set_option maxHeartbeats 4000000 in
theorem sorts_any (L : List ByteArray) (ad : Option Addr) (cap : Nat) (w : World) (hr : Reads w ad (nV L)) (hcap : L.length ≤ cap) (hcm : cap ≤ maxLen) (hnil : ad = none → L.length = 0 ∧ cap = 0) :
    Calls Try.prog 4 #[.slice ad L.length cap] w fun e w' => e = .returned (.bool true) ∧ Below w.heap.size w w' := by
  have AL := alive_any w
  by_cases h200 : L.length ≤ 200
  · have h200' : ¬ (200 : Int) < (L.length : Int) := by omega
    have HR := hide hr
    have HNI := hide hnil
    clear hr hnil
    go_enter Try.func4, Try.ntmps4
    go_wp2_with (go_at_call 7; go_must (with_reducible refine AL.mono ?_; (rintro e w1 ⟨rfl, hb1⟩)))
    clear AL
    go_loopw [4] (fun i wr => wr = w1 ∧ ∃ k : Nat, k ≤ L.length ∧ i = .int .i64 (k : Nat) ∧ Hid (∀ x ∈ L.take k, x.size ≤ 200)) (fun i _ => L.length - (intOf i).toNat)
    case atStart => exact ⟨rfl, 0, by omega, rfl, fun x hx => by simp at hx⟩
    case round =>
      obtain ⟨rfl, k, hk, rfl, hh⟩ := hrel
      have HR1 := hide (HR.out.below hb1)
      by_cases hlt : k < L.length
      · have hlt' : (k : Int) < (L.length : Int) := by omega
        obtain ⟨y, hy⟩ : ∃ y, L[k]? = some y := ⟨L[k], List.getElem?_eq_getElem hlt⟩
        obtain ⟨b, off, rfl, hc⟩ := reads_nV (k := k) (x := y) HR1.out hy
        have c1 := hc.out k y hy
        by_cases hz : y.size ≤ 200
        · have hz' : ¬ (200 : Int) < (y.size : Int) := by omega
          have HN := hide (show ∀ x ∈ L.take (k + 1), x.size ≤ 200 from fun x hx => by
            rw [List.take_add_one, hy] at hx
            rcases List.mem_append.1 hx with hx | hx
            · exact hh.out x hx
            · simp at hx; subst hx; exact hz)
          clear hc hy hh hz
          go_wp2_with fail
          go_roundw
          case rel => exact ⟨by trivial, k + 1, by omega, by go_num, HN⟩
          case measure => simp [intOf]; omega
        · have hz' : (200 : Int) < (y.size : Int) := by omega
          clear hc hy hh hz
          go_wp2_with fail
          go_ret
          exact ⟨rfl, hb1⟩
      · have hlt' : ¬ (k : Int) < (L.length : Int) := by omega
        have HSZ := hide (show ∀ x ∈ L, x.size ≤ 200 by
          have := hh.out
          rwa [List.take_of_length_le (by omega)] at this)
        clear hh
        have hs1 := hb1.size
        go_wp2_with (at_builtin; go_must (refine append_names rfl (.const (.slice none 0 0)) (.tmp 30) rfl wr.heap.size (.slice none 0 0) 0 [] rfl (by simpa [nV] using World.ownsRow_nil wr _ 22 1) ad L.length cap L rfl HNI.out rfl HR1.out (by omega) (Nat.le_refl _) ?_; intro v2 w2 ho2 hg2; refine Hid.out ?_))
        refine Lib.hid ?_
        have hb2 : Below wr.heap.size wr w2 := below_of hg2
        have ho2' : w2.ownsRow wr.heap.size 22 1 v2 L.length (nV L) := by simpa using ho2
        clear ho2 hg2
        have HR2 := hide (HR1.out.below hb2)
        obtain ⟨a2, c2, rfl, hc2, hn2, hr2⟩ := own_formN ho2'
        have HR2' := hide hr2
        have C3 := sort_any L a2 c2 w2 hr2 (by omega) (fun h => (hn2 h).1) (fun s hs => by have := HSZ.out s hs; omega)
        unfold SortPost at C3
        rw [eV_nV, ← sorts_eq] at C3
        have hsl : (sortU (ssOf L)).length = (sortR L).length := by rw [sorts_eq]; simp
        rw [hsl] at C3
        have hrl : (sortR L).length ≤ 200 := by have := fold_len L []; simp at this; unfold sortR; omega
        have R4 := hide (fun w hr => refSort_any L ad cap w hr (by omega))
        generalize sortR L = R at C3 R4 hrl
        clear hr2 hsl
        go_wp2_with (go_at_call 18; go_must (with_reducible refine C3.mono ?_; (rintro e w3 ⟨v3, rfl, ho3, hb3⟩); refine Hid.out ?_))
        refine Lib.hid ?_
        have HR3 := hide (HR2.out.below hb3)
        have HO3 := hide (HR2'.out.below hb3)
        have C4 := R4.out w3 HR3.out
        go_wp2_with (go_at_call 20; go_must (with_reducible refine C4.mono ?_; (rintro e w4 ⟨v4, rfl, ho4, hb4⟩); refine Hid.out ?_))
        refine Lib.hid ?_
        have HR4 := hide (HR3.out.below hb4)
        have HO4 := hide (HO3.out.below hb4)
        have ho3' := own_belowN ho3 hb4
        obtain ⟨a3, c3, rfl, hc3, hn3, hr3⟩ := own_formN ho3'
        obtain ⟨a4, c4, rfl, hc4, hn4, hr4⟩ := own_formN ho4
        have C5 := same_any R R a3 a4 c3 c4 w4 hr3 hr4 (by omega) (by omega)
        rw [decide_eq_true rfl] at C5
        have C6 := fun (w : World) (h1 : Reads w a2 (nV L)) (h2 : Reads w ad (nV L)) => same_any L L a2 ad c2 cap w h1 h2 (by omega) (by omega)
        rw [decide_eq_true rfl] at C6
        have C6' := hide C6
        clear C6 hr3 hr4 C3 C4 R4
        go_wp2_with (go_at_call 19; go_must (with_reducible refine C5.mono ?_; (rintro e w5 ⟨rfl, hb5⟩); refine Hid.out ?_))
        refine Lib.hid ?_
        have HR5 := hide (HR4.out.below hb5)
        have HO5 := hide (HO4.out.below hb5)
        have C6 := C6'.out w5 HO5.out HR5.out
        go_wp2_with (go_at_call 19; go_must (with_reducible refine C6.mono ?_; (rintro e w6 ⟨rfl, hb6⟩); refine Hid.out ?_))
        refine Lib.hid ?_
        have HR6 := hide (HR5.out.below hb6)
        have HO6 := hide (HO5.out.below hb6)
        have ho6 := own_belowN (own_belowN ho3' hb5) hb6
        have hs2 := hb2.size
        have hs3 := hb3.size
        have HBA := hide (chain hb1 (chain hb2 (chain hb3 (chain hb4 (chain hb5 hb6)))))
        have HB36 := hide (chain hb3 (chain hb4 (chain hb5 hb6)))
        clear C5 C6 ho3 ho4 ho3' hb3 hb4 hb5 hb6 HR3 HR4 HR5 HO3 HO4 HO5
        go_wp2_with fail
        go_loopw [8] (fun i wx => Below w.heap.size w wx ∧ Hid (Below w2.heap.size w2 wx) ∧ ∃ k : Nat, k ≤ R.length ∧ i = .int .i64 (k : Nat) ∧ Hid (∃ xs, wx.ownsRow w2.heap.size 22 1 (.slice a3 R.length c3) R.length xs)) (fun i _ => R.length - (intOf i).toNat)
        case atStart => exact ⟨HBA.out, HB36, 0, by omega, rfl, ⟨_, ho6⟩⟩
        case round =>
          obtain ⟨hbx, hbx2, m, hm, rfl, hox⟩ := hrel
          obtain ⟨xs, hox⟩ := hox.out
          have HBX := hide hbx
          by_cases hlt2 : m < R.length
          · have hlt2' : (m : Int) < (R.length : Int) := by omega
            obtain ⟨g, rfl, hg1, cur, hgw, hgs⟩ : ∃ g, a3 = some ⟨g, 0, none⟩ ∧ w2.heap.size ≤ g ∧ ∃ cur, wr.heap[g]? = some (.cells cur 22 (0, 0)) ∧ R.length ≤ cur.size := by
              rcases hox.2 with ⟨e, h0⟩ | ⟨g, c, cur, e, h1, h2, h3, h4, h5, h6⟩
              · omega
              · simp only [Value.slice.injEq] at e
                obtain ⟨rfl, _, rfl⟩ := e
                exact ⟨g, rfl, h1, cur, h2, by omega⟩
            have cx : ∃ u, wr.cell? ⟨g, m, none⟩ = some u := by
              refine ⟨cur[m]'(by omega), ?_⟩
              unfold World.cell?
              rw [hgw]
              simp [show m < cur.size by omega]
            obtain ⟨u, cx⟩ := cx
            have fz : wr.frozen? ⟨g, m, none⟩ = false := by simp [World.frozen?, hgw]
            obtain ⟨hst, hsg⟩ := stored_own (j := m) (.string ⟨#[120]⟩) hox
            have HST := hide hst
            have HB7 := hide (show Below w.heap.size w (wr.setCell ⟨g, m, none⟩ (.string ⟨#[120]⟩)) from HBX.out.grown hsg HBX.out.size (fun q hq => by cases hq; omega))
            have HB8 := hide (show Below w2.heap.size w2 (wr.setCell ⟨g, m, none⟩ (.string ⟨#[120]⟩)) from hbx2.out.grown hsg hbx2.out.size (fun q hq => by cases hq; omega))
            clear hst hsg hgw hox hbx
            go_wp2_with fail
            go_roundw
            case rel => exact ⟨by simpa using HB7.out, by refine Lib.hid ?_; simpa using HB8.out, m + 1, by omega, by go_num, Lib.hid ⟨xs.set m (.string ⟨#[120]⟩), by simpa using HST.out⟩⟩
            case measure => simp [intOf]; omega
          · have hlt2' : ¬ (m : Int) < (R.length : Int) := by omega
            have HO7 := hide (HR2'.out.below hbx2.out)
            have HR7 := hide (HR2.out.below hbx2.out)
            have C6 := C6'.out wr HO7.out HR7.out
            clear hox hbx
            go_wp2_with (go_at_call 19; go_must (with_reducible refine C6.mono ?_; (rintro e w8 ⟨rfl, hb8⟩); refine Hid.out ?_))
            refine Lib.hid ?_
            have HR8 := hide (HR7.out.below hb8)
            have C8 := common_any L ad cap w8 HR8.out hcap hcm (fun s hs => by have := HSZ.out s hs; omega)
            go_wp2_with (go_at_call 21; go_must (with_reducible refine C8.mono ?_; (rintro e w9 ⟨rfl, hb9⟩); refine Hid.out ?_))
            refine Lib.hid ?_
            have HR9 := hide (HR8.out.below hb9)
            have C9 := refCommon_any L ad cap w9 HR9.out hcap hcm (fun s hs => by have := HSZ.out s hs; omega)
            have hcc : ((commonB L).toList == (commonB L).toList) = true := by simp
            go_wp2_with (go_at_call 22; go_must (with_reducible refine C9.mono ?_; (rintro e w10 ⟨rfl, hb10⟩)))
            go_ret
            exact ⟨rfl, chain HBX.out (chain hb8 (chain hb9 hb10))⟩
  · have h200' : (200 : Int) < (L.length : Int) := by omega
    go_enter Try.func4, Try.ntmps4
    go_wp2_with (go_at_call 7; go_must (with_reducible refine AL.mono ?_; (rintro e w1 ⟨rfl, hb1⟩)))
    go_ret
    exact ⟨rfl, hb1⟩
theorem identSorts.walk (a : Option Addr) (l c : Nat) (x : List ByteArray) (W : World) (hl : x.length = l) (hc : l ≤ c) (hm : c ≤ maxLen ∧ (a = none → l = 0 ∧ c = 0)) (hr : Reads W a (nV x)) : Calls Try.prog 4 #[.slice a l c] W fun e w' => e = .returned (.bool true) ∧ Below W.heap.size W w' := by
  subst hl
  exact sorts_any x a c W hr hc hm.1 hm.2
end Go.Proofs.Ytbnefomabbepbaa
