/- slices.IndexFunc over the parcels. -/
import Derived.Test.YtmjglgdihlomlaaGoM
namespace Go.Proofs.Ytmjglgdihlomlaa
open Go.RowKit Go.ChangeShapes Go.WideShapes Go.ChangeAt Go.Deep Go.Maps

def goB (ns : List Int) (x : Pc) : Bool := decide (x.1 ∈ ns) || decide (x.2.1 ∈ ns)
def wfP (x : Pc) : Prop := (Lit.int .i64 x.1).wf = true ∧ (Lit.int .i64 x.2.1).wf = true
theorem GoneM.keep {w w' : World} {gb b : Nat} {ns : List Int} (h : GoneM w gb b ns) (hg : w'.heap[gb]? = w.heap[gb]?) (hb : w'.heap[b]? = w.heap[b]?) : GoneM w' gb b ns := by
  obtain ⟨h1, n, h2⟩ := h
  refine ⟨by rw [World.cell?_of_block (w := w) (a := ⟨gb, 0, none⟩) hg]; exact h1, n, ?_⟩
  obtain ⟨es, clock, e1, e2⟩ := h2
  exact ⟨es, clock, by rw [hb]; exact e1, e2⟩
theorem GoneM.lt {w : World} {gb b : Nat} {ns : List Int} (h : GoneM w gb b ns) : gb < w.heap.size ∧ b < w.heap.size := by
  obtain ⟨h1, n, h2⟩ := h
  obtain ⟨es, clock, e1, e2⟩ := h2
  exact ⟨cell_some_lt h1, (Array.getElem?_eq_some_iff.1 e1).1⟩
theorem GoneM.below {w w' : World} {gb b : Nat} {ns : List Int} (h : GoneM w gb b ns) (hb : Below w.heap.size w w') : GoneM w' gb b ns := h.keep (hb.block _ h.lt.1) (hb.block _ h.lt.2)
/-- What IndexFunc answers. -/
def IdxP (ns : List Int) (l : List Pm) (r : Int) : Prop := (r = -1 ∧ ∀ x ∈ l, goB ns x.p = false) ∨ ∃ k, ∃ h : k < l.length, r = (k : Int) ∧ goB ns l[k].p = true ∧ ∀ j (hj : j < l.length), j < k → goB ns l[j].p = false

set_option linter.unusedSimpArgs false in
set_option maxRecDepth 100000 in
set_option maxHeartbeats 2000000 in
theorem idx_any (A : Nat → Prop) (w : World) (gb b : Nat) (ns : List Int) (a : Option Addr) (n c : Nat) (l : List Pm) (h : RowP A w a n c l) (hn : n ≤ 20000) (hG : GoneM w gb b ns) (hwf : ∀ x ∈ l, wfP x.p) :
    Calls Try.prog 31 #[.slice a n c, .func (.func 28) #[] #[.pointer (some ⟨gb, 0, none⟩)]] w fun e w' => ∃ r, e = .returned (.int .i64 r) ∧ IdxP ns l r ∧ Below w.heap.size w w' := by
  have HR := hide h
  have HL := hide h.1
  have HG := hide hG
  have HW := hide hwf
  have H0 := hide (show ∀ j (hj : j < l.length), j < 0 → goB ns l[j].p = false from fun j _ h => by omega)
  clear h hG hwf
  go_enter Try.func31, Try.ntmps31
  go_wp2
  go_loopw [8] (fun i wr => Hid (Below w.heap.size w wr) ∧ ∃ k : Nat, k ≤ n ∧ i = .int .i64 (k : Nat) ∧ Hid (∀ j (hj : j < l.length), j < k → goB ns l[j].p = false)) (fun i _ => n - (intOf i).toNat)
  case atStart => exact ⟨hide (Below.refl _ _), 0, Nat.zero_le _, rfl, H0⟩
  case round =>
    obtain ⟨HB, k, hk, rfl, HA⟩ := hrel
    by_cases hlt : k < n
    · have hkl : k < l.length := by have := HL.out; omega
      have hlt' : (k : Int) < (n : Int) := by omega
      obtain ⟨g, off, har, y0, y1, y2⟩ := (HR.out.below HB.out).at hkl
      subst har
      have hwk := HW.out l[k] (List.getElem_mem _)
      have C28 := hide (gone_test wr gb b ns l[k].p.1 l[k].p.2.1 l[k].a l[k].n l[k].c (HG.out.below HB.out) hwk.1 hwk.2)
      have HT := hide (fun (h : goB ns l[k].p = true) => show IdxP ns l (k : Int) from .inr ⟨k, hkl, rfl, h, HA.out⟩)
      have HN := hide (fun (h : goB ns l[k].p = false) j (h1 : j < l.length) (h2 : j < k + 1) => show goB ns l[j].p = false by
        rcases Nat.lt_or_eq_of_le (Nat.le_of_lt_succ h2) with h3 | rfl
        · exact HA.out j h1 h3
        · exact h)
      have HGB := hide (show (decide (l[k].p.1 ∈ ns) || decide (l[k].p.2.1 ∈ ns)) = goB ns l[k].p from rfl)
      rw [HGB.out] at C28
      generalize goB ns l[k].p = R at C28 HT HN HGB
      clear HGB hwk
      generalize l[k].p.1 = f at y0 C28
      generalize l[k].p.2.1 = t at y1 C28
      generalize l[k].a = xa at y2 C28
      generalize l[k].n = xn at y2 C28
      generalize l[k].c = xc at y2 C28
      clear hkl
      cases R
      · have HN2 := hide (HN.out rfl)
        go_wp2_with (go_at_call 28; go_must ((with_reducible refine C28.out.mono ?_); rintro e w1 ⟨rfl, hb1⟩; have HB1 := hide (HB.out.trans (hb1.mono HB.out.size)); clear hb1))
        go_roundw
        case rel => exact ⟨HB1, k + 1, by omega, by go_num, HN2⟩
        case measure => simp [intOf]; omega
      · have HT2 := hide (HT.out rfl)
        go_wp2_with (go_at_call 28; go_must ((with_reducible refine C28.out.mono ?_); rintro e w1 ⟨rfl, hb1⟩; have HB1 := hide (HB.out.trans (hb1.mono HB.out.size)); clear hb1))
        go_ret
        exact ⟨_, rfl, HT2.out, HB1.out⟩
    · obtain rfl : k = n := by omega
      have HF := hide (show IdxP ns l (-1) from .inl ⟨rfl, fun x hx => by
        obtain ⟨i, hi, rfl⟩ := List.getElem_of_mem hx
        exact HA.out i hi (by have := HL.out; omega)⟩)
      go_wp2
      go_ret
      exact ⟨_, rfl, HF.out, HB.out⟩
end Go.Proofs.Ytmjglgdihlomlaa
