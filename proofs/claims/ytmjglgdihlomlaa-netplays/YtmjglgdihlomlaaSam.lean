/- same: two rows of parcels that are one. -/
import Derived.Test.YtmjglgdihlomlaaRDly
import Derived.Test.YtmjglgdihlomlaaFlipW
import Derived.BigQuiet
namespace Go.Proofs.Ytmjglgdihlomlaa
open Go.RowKit Go.ChangeShapes Go.WideShapes Go.ChangeAt Go.Deep

theorem RowP.str {A : Nat → Prop} {w : World} {a : Option Addr} {n c : Nat} {l : List Pm} (h : RowP A w a n c l) {k : Nat} (hk : k < l.length) (W : World) (hW : W.heap = w.heap) : (convert 35 9 (.slice l[k].a l[k].n l[k].c)).run Try.prog W = .ok (.string (bstr l[k].p.2.2)) W := by
  have hz := h.2.2.2.2.2 l[k] (List.getElem_mem _)
  refine run_str rfl hz.1 ?_ l[k].c
  rcases hz.2.2.2.2.1 with h | ⟨b, o, e, h⟩
  · exact .inl h
  · refine .inr ⟨b, o, e, fun j u hu => ?_⟩
    have := h j u hu
    unfold World.cell? at this ⊢
    rw [hW]; exact this

set_option linter.unusedSimpArgs false in
set_option maxRecDepth 100000 in
set_option maxHeartbeats 4000000 in
theorem same_yes (A B : Nat → Prop) (w : World) (a a' : Option Addr) (n c n' c' : Nat) (l l' : List Pm) (h : RowP A w a n c l) (h' : RowP B w a' n' c' l') (he : l.map Pm.p = l'.map Pm.p) (hn : n ≤ 20000) :
    Calls Try.prog 14 #[.slice a n c, .slice a' n' c'] w fun e w' => e = .returned (.bool true) ∧ Below w.heap.size w w' := by
  have hl := h.1
  have hl' := h'.1
  have hnn : n = n' := by have := congrArg List.length he; simp at this; omega
  subst hnn
  have HR := hide h
  have HR' := hide h'
  have HE := hide (fun k (h1 : k < l.length) (h2 : k < l'.length) => show l[k].p = l'[k].p by
    have h3 := congrArg (fun z => z[k]?) he
    simp [h1, h2] at h3
    exact h3)
  have HL := hide hl
  have HL' := hide hl'
  have q : ((n : Int) == (n : Int)) = true := by simp
  clear h h' he hl hl'
  go_enter Try.func14, Try.ntmps14
  go_wp2
  go_loopw [5] (fun i wr => Hid (Below w.heap.size w wr) ∧ ∃ (k : Nat), k ≤ n ∧ i = .int .i64 (k : Nat)) (fun i _ => n - (intOf i).toNat)
  case atStart => exact ⟨hide (Below.refl _ _), 0, Nat.zero_le _, rfl⟩
  case round =>
    obtain ⟨HB, k, hk, rfl⟩ := hrel
    by_cases hlt : k < n
    · have hka : k < l.length := by have := HL.out; omega
      have hkb : k < l'.length := by have := HL'.out; omega
      have hra := HR.out.below HB.out
      have hrb := HR'.out.below HB.out
      obtain ⟨g, off, har, y0, y1, y2⟩ := hra.at hka
      obtain ⟨g', off', hbr, z0, z1, z2⟩ := hrb.at hkb
      subst har
      subst hbr
      have t0 := fun j => hra.str hka (wr.drewN j) rfl
      have t1 := fun j => hrb.str hkb (wr.drewN j) rfl
      have hlt' : (k : Int) < (n : Int) := by omega
      rw [← HE.out k hka hkb] at z0 z1 t1
      generalize l[k].p.1 = f at y0 z0
      generalize l[k].p.2.1 = t at y1 z1
      generalize bstr l[k].p.2.2 = S at t0 t1
      generalize l[k].a = xa at y2 t0
      generalize l[k].n = xn at y2 t0
      generalize l[k].c = xc at y2 t0
      generalize l'[k].a = xa' at z2 t1
      generalize l'[k].n = xn' at z2 t1
      generalize l'[k].c = xc' at z2 t1
      clear hra hrb hka hkb
      go_wp2_with fail
      go_big_quiet (fail)
      go_wp2_with fail
      go_roundw
      case rel => exact ⟨hide (netFlips.below_drewN HB.out _), k + 1, by omega, by go_num⟩
      case measure => simp [intOf]; omega
    · obtain rfl : k = n := by omega
      have hlt' : ¬ (k : Int) < (k : Int) := by omega
      go_wp2
      go_ret
      exact ⟨rfl, HB.out⟩
end Go.Proofs.Ytmjglgdihlomlaa
