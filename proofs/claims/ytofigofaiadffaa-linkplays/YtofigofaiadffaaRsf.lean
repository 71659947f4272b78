/- LinkPlays: frames that are one; which acts are too great; the argument. -/
import Derived.Test.YtofigofaiadffaaRij
import Derived.Test.YtofigofaiadffaaLds
import Derived.Test.YtofigofaiadffaaArgF
namespace Go.Proofs.Ytofigofaiadffaa
open Go.RowKit Go.ChangeShapes Go.WideShapes Go.ChangeAt Go.Deep

/-- A row of frames that is read. -/
def RowFr (w : World) (a : Option Addr) (n : Nat) (l : List Fm) : Prop := l.length = n ∧ Reads w a (fV l) ∧ ∀ x ∈ l, Txt.ok w x.t
theorem RowFr.below {w w' : World} {a : Option Addr} {n : Nat} {l : List Fm} (h : RowFr w a n l) (hb : Below w.heap.size w w') : RowFr w' a n l := ⟨h.1, h.2.1.below hb, fun t ht => (h.2.2 t ht).below hb⟩
theorem RowF.reads {B : Nat} {w : World} {a : Option Addr} {n c : Nat} {l : List Fm} (h : RowF B w a n c l) : RowFr w a n l := ⟨h.1, (reads_ownV h.2.1).1, fun x hx => (h.2.2 x hx).ok⟩
theorem RowFr.at {w : World} {a : Option Addr} {n : Nat} {l : List Fm} (h : RowFr w a n l) {k : Nat} (hk : k < l.length) : ∃ b off, a = some ⟨b, off, none⟩ ∧ w.cell? ⟨b, off + k * 6, none⟩ = some (.int .i64 l[k].fr) ∧ w.cell? ⟨b, off + k * 6 + 1, none⟩ = some (.int .i64 l[k].tt) ∧ w.cell? ⟨b, off + k * 6 + 2, none⟩ = some (.int .i64 l[k].lf) ∧ w.cell? ⟨b, off + k * 6 + 3, none⟩ = some (.int .i64 l[k].sq) ∧ w.cell? ⟨b, off + k * 6 + 4, none⟩ = some (.int .i64 l[k].ak) ∧ w.cell? ⟨b, off + k * 6 + 5, none⟩ = some (.slice l[k].t.a l[k].t.len l[k].t.cap) := by
  obtain ⟨h0, h1, h2, h3, h4, h5⟩ := fV_at l k hk
  rcases h.2.1 with e | ⟨b, off, e, hr⟩
  · rw [e] at h0
    simp at h0
  · exact ⟨b, off, e, hr _ _ h0, by rw [Nat.add_assoc]; exact hr _ _ h1, by rw [Nat.add_assoc]; exact hr _ _ h2, by rw [Nat.add_assoc]; exact hr _ _ h3, by rw [Nat.add_assoc]; exact hr _ _ h4, by rw [Nat.add_assoc]; exact hr _ _ h5⟩
theorem Txt.ok.str {w : World} {t : Txt} (h : Txt.ok w t) (W : World) (hW : Below w.heap.size w W) : (convert 32 9 (.slice t.a t.len t.cap)).run Try.prog W = .ok (.string (bstr t.bs)) W :=
  run_str rfl h.1 ((h.2.2.2.2).below hW) t.cap

set_option maxRecDepth 100000 in
set_option maxHeartbeats 4000000 in
theorem same_frame (x y : Fm) (w : World) (hx : Txt.ok w x.t) (hy : Txt.ok w y.t) (he : x.p = y.p) :
    Calls Try.prog 30 #[.agg x.cs.toArray, .agg y.cs.toArray] w fun e w' => e = .returned (.bool true) ∧ Below w.heap.size w w' := by
  have hb : ∀ o o2 : Obj, Below w.heap.size w ((w.alloc o).alloc o2) := fun o o2 => ((Below.refl _ _).alloc (Nat.le_refl _) _).alloc (by simp) _
  have h1 := fun o o2 => hx.str _ (hb o o2)
  have h2 := fun o o2 => hy.str _ (hb o o2)
  obtain ⟨a0, a1, a2, a3, a4, ta, tl, tc, tb⟩ := x
  obtain ⟨b0, b1, b2, b3, b4, ua, ul, uc, ub⟩ := y
  simp only [Fm.p, Fr.mk.injEq] at he
  obtain ⟨rfl, rfl, rfl, rfl, rfl, rfl⟩ := he
  simp only [Fm.cs]
  simp only at h1 h2
  generalize bstr tb = S1 at h1 h2
  have HB := hide hb
  clear hb hx hy
  go_enter Try.func30, Try.ntmps30
  go_wp2
  go_ret
  exact ⟨rfl, HB.out _ _⟩

set_option linter.unusedSimpArgs false in
set_option maxRecDepth 100000 in
set_option maxHeartbeats 4000000 in
theorem frames_yes (w : World) (a a' : Option Addr) (n c n' c' : Nat) (l l' : List Fm) (h : RowFr w a n l) (h' : RowFr w a' n' l') (he : l.map Fm.p = l'.map Fm.p) (hn : n ≤ 1000000) :
    Calls Try.prog 16 #[.slice a n c, .slice a' n' c'] w fun e w' => e = .returned (.bool true) ∧ Below w.heap.size w w' := by
  have hl := h.1
  have hl' := h'.1
  have hnn : n = n' := by have := congrArg List.length he; simp at this; omega
  subst hnn
  have HR := hide h
  have HR' := hide h'
  have HE := hide (fun k (h1 : k < l.length) (h2 : k < l'.length) => show l[k].p = l'[k].p by
    have h3 := congrArg (fun z => z[k]?) he
    simp [h1, h2] at h3
    exact h3)
  have HL := hide hl
  have HL' := hide hl'
  have q : ((n : Int) == (n : Int)) = true := by simp
  clear h h' he hl hl'
  go_enter Try.func16, Try.ntmps16
  go_wp2
  go_loopw [5] (fun i wr => Hid (Below w.heap.size w wr) ∧ ∃ (k : Nat), k ≤ n ∧ i = .int .i64 (k : Nat)) (fun i _ => n - (intOf i).toNat)
  case atStart => exact ⟨hide (Below.refl _ _), 0, Nat.zero_le _, rfl⟩
  case round =>
    obtain ⟨HB, k, hk, rfl⟩ := hrel
    by_cases hlt : k < n
    · have hka : k < l.length := by have := HL.out; omega
      have hkb : k < l'.length := by have := HL'.out; omega
      have hra := HR.out.below HB.out
      have hrb := HR'.out.below HB.out
      obtain ⟨g, off, har, y0, y1, y2, y3, y4, y5⟩ := hra.at hka
      obtain ⟨g', off', hbr, z0, z1, z2, z3, z4, z5⟩ := hrb.at hkb
      subst har
      subst hbr
      have C30 := hide (same_frame l[k] l'[k] wr.drew ((hra.2.2 _ (List.getElem_mem _)).below (below_drewN (Below.refl _ _) 1)) ((hrb.2.2 _ (List.getElem_mem _)).below (below_drewN (Below.refl _ _) 1)) (HE.out k hka hkb))
      generalize l[k] = x at y0 y1 y2 y3 y4 y5 C30
      generalize l'[k] = x' at z0 z1 z2 z3 z4 z5 C30
      simp only [Fm.cs] at C30
      have hlt' : (k : Int) < (n : Int) := by omega
      clear hra hrb hka hkb
      go_upto_region 6 with fail
      go_region_held3 (fun W => W.cell? ⟨g, off + k * 6, none⟩ = some (.int .i64 x.fr) ∧ W.cell? ⟨g, off + k * 6 + 1, none⟩ = some (.int .i64 x.tt) ∧ W.cell? ⟨g, off + k * 6 + 2, none⟩ = some (.int .i64 x.lf) ∧ W.cell? ⟨g, off + k * 6 + 3, none⟩ = some (.int .i64 x.sq) ∧ W.cell? ⟨g, off + k * 6 + 4, none⟩ = some (.int .i64 x.ak) ∧ W.cell? ⟨g, off + k * 6 + 5, none⟩ = some (.slice x.t.a x.t.len x.t.cap) ∧ W.cell? ⟨g', off' + k * 6, none⟩ = some (.int .i64 x'.fr) ∧ W.cell? ⟨g', off' + k * 6 + 1, none⟩ = some (.int .i64 x'.tt) ∧ W.cell? ⟨g', off' + k * 6 + 2, none⟩ = some (.int .i64 x'.lf) ∧ W.cell? ⟨g', off' + k * 6 + 3, none⟩ = some (.int .i64 x'.sq) ∧ W.cell? ⟨g', off' + k * 6 + 4, none⟩ = some (.int .i64 x'.ak) ∧ W.cell? ⟨g', off' + k * 6 + 5, none⟩ = some (.slice x'.t.a x'.t.len x'.t.cap)) (first | exact ⟨y0, y1, y2, y3, y4, y5, z0, z1, z2, z3, z4, z5⟩ | exact ⟨u0, u1, u2, u3, u4, u5, v0, v1, v2, v3, v4, v5⟩) ((go_at_call 30; (with_reducible refine C30.out.mono ?_); rintro e w1 ⟨rfl, hb1⟩; have HBN := hide (below_undrew1 hb1); have HB1 := hide (HB.out.trans (HBN.out.mono HB.out.size)); have u0 := keep_cell y0 HBN.out; have v0 := keep_cell z0 HBN.out; have u1 := keep_cell y1 HBN.out; have v1 := keep_cell z1 HBN.out; have u2 := keep_cell y2 HBN.out; have v2 := keep_cell z2 HBN.out; have u3 := keep_cell y3 HBN.out; have v3 := keep_cell z3 HBN.out; have u4 := keep_cell y4 HBN.out; have v4 := keep_cell z4 HBN.out; have u5 := keep_cell y5 HBN.out; have v5 := keep_cell z5 HBN.out; clear hb1))
      go_wp2_with fail
      go_roundw
      case rel => exact ⟨HB1, k + 1, by omega, by go_num⟩
      case measure => simp [intOf]; omega
    · obtain rfl : k = n := by omega
      have hlt' : ¬ (k : Int) < (k : Int) := by omega
      go_wp2
      go_ret
      exact ⟨rfl, HB.out⟩
end Go.Proofs.Ytofigofaiadffaa
