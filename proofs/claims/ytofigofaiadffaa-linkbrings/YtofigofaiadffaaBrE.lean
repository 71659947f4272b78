/- LinkBrings: a frame is lost, or comes in. -/
import Derived.Test.YtofigofaiadffaaBrT
namespace Go.Proofs.Ytofigofaiadffaa
namespace linkBrings
open Go.RowKit Go.ChangeShapes Go.WideShapes Go.ChangeAt Go.Deep

theorem map_erase (l : List Fm) (k : Nat) : (l.eraseIdx k).map Fm.p = (l.map Fm.p).eraseIdx k := by
  induction l generalizing k with
  | nil => rfl
  | cons a r ih =>
    cases k with
    | zero => rfl
    | succ k => simp [List.eraseIdx, ih]
theorem below_grow {V w w' : World} {a : Option Addr} {n c : Nat} (hb : Below V.heap.size V w) (hg : w.grownBy w' (Value.slice a n c).ownBlock) (ha : ∀ ad, a = some ad → V.heap.size ≤ ad.block) : Below V.heap.size V w' := hb.grown hg hb.size (fun k e => by
  cases a with
  | none => cases e
  | some ad => simp only [Value.ownBlock, Option.some.injEq] at e; rw [← e]; exact ha ad rfl)
/-- A frame is taken from the way: three appends. -/
theorem erase_app {w0 V : World} {pb ga gb gw cw nw k2 : Nat} {D1 D2 : Nat → Prop} {p : Pr} {l : List Fm} {t0 t1 u0 u1 : Rw} (h : PairS w0 V pb ga gb D1 D2 p (some ⟨gw, 0, none⟩) cw l t0 t1 u0 u1) (hn : nw = p.way.length) (hk : k2 < nw) (hb : nw ≤ 400000) :
    ∃ a1 c1 w3 a2 c2 w4 a3 c3 w5, (Builtin.append_ #[53, 53] 53 #[.slice none 0 0, .slice (some (atf gw cw (k2 + 1))) (nw - (k2 + 1)) (cw - (k2 + 1))]).run Try.prog V = .ok (.slice a1 (nw - (k2 + 1)) c1) w3 ∧
      (Builtin.append_ #[53, 53] 53 #[.slice none 0 0, .slice (some ⟨gw, 0, none⟩) k2 cw]).run Try.prog w3 = .ok (.slice a2 k2 c2) w4 ∧
      (Builtin.append_ #[53, 53] 53 #[.slice a2 k2 c2, .slice a1 (nw - (k2 + 1)) c1]).run Try.prog w4 = .ok (.slice a3 (k2 + (nw - (k2 + 1))) c3) w5 ∧
      Below V.heap.size V w3 ∧ Below V.heap.size V w5 ∧ (w5.cell? ⟨pb, 2, none⟩ = some (.slice (some ⟨gw, 0, none⟩) nw cw) ∧ w5.frozen? ⟨pb, 2, none⟩ = false) ∧
      PairS w0 (w5.setCell ⟨pb, 2, none⟩ (.slice a3 (k2 + (nw - (k2 + 1))) c3)) pb ga gb D1 D2 { p with way := p.way.eraseIdx k2 } a3 c3 (l.eraseIdx k2) t0 t1 u0 u1 := by
  have hlen : l.length = nw := by have h1 := congrArg List.length h.wp; rw [List.length_map] at h1; omega
  have hwo : V.ownsRow w0.heap.size 34 6 (.slice (some ⟨gw, 0, none⟩) nw cw) nw (fV l) := by rw [hn]; exact h.wo
  have hrd := (own_reads hwo).1
  obtain ⟨a1, c1, w3, r1, o1, g1, q1⟩ := app34 V V.heap.size none 0 0 [] (World.ownsRow_nil _ _ _ _) (some (atf gw cw (k2 + 1))) (nw - (k2 + 1)) (cw - (k2 + 1)) (l.drop (k2 + 1)) (fun e => by cases e) (by rw [List.length_drop]; omega) (reads_fromF hwo hlen) (by omega) (Nat.le_refl _) 53
  simp only [Nat.zero_add, List.nil_append] at r1 o1
  have b3 : Below V.heap.size V w3 := below_grow (Below.refl _ _) g1 (fun ad e => by cases e)
  obtain ⟨a2, c2, w4, r2, o2, g2, q2⟩ := app34 w3 V.heap.size none 0 0 [] (World.ownsRow_nil _ _ _ _) (some ⟨gw, 0, none⟩) k2 cw (l.take k2) (fun e => by cases e) (by rw [List.length_take]; omega) (reads_toF (hrd.below b3)) (by omega) b3.size 53
  simp only [Nat.zero_add, List.nil_append] at r2 o2
  have b4 : Below V.heap.size V w4 := below_grow b3 g2 (fun ad e => by cases e)
  have b34 : Below w3.heap.size w3 w4 := below_of g2
  have o1' : w4.ownsRow V.heap.size 34 6 (.slice a1 (nw - (k2 + 1)) c1) (nw - (k2 + 1)) (fV (l.drop (k2 + 1))) := own_keep o1 fun ad e => b34.block _ (own_lt o1 ad e).2
  obtain ⟨a3, c3, w5, r3, o3, g3, q3⟩ := app34 w4 V.heap.size a2 k2 c2 (l.take k2) o2 a1 (nw - (k2 + 1)) c1 (l.drop (k2 + 1)) (own_reads o1').2 (by rw [List.length_drop]; omega) (own_reads o1').1 (by omega) b4.size 53
  have b5 : Below V.heap.size V w5 := below_grow b4 g3 (fun ad e => (own_lt o2 ad e).1)
  rw [← List.eraseIdx_eq_take_drop_succ] at o3
  have hmap : (l.eraseIdx k2).map Fm.p = p.way.eraseIdx k2 := by rw [← h.wp, map_erase]
  have hset := h.setWay (w1 := w5) (aw' := a3) (n' := k2 + (nw - (k2 + 1))) (cw' := c3) (l' := l.eraseIdx k2) ⟨b5.os, b5.tape, b5.output, b5.size, fun k hk _ => b5.block k hk⟩ (by rw [List.length_eraseIdx_of_lt (by omega)]; omega) (own_base o3 h.bel.size) (.inr fun ad e => (own_lt o3 ad e).1) (fun x hx => (h.wl x (List.mem_of_mem_eraseIdx hx)).below b5)
  rw [hmap] at hset
  have hc2 : V.cell? ⟨pb, 2, none⟩ = some (.slice (some ⟨gw, 0, none⟩) nw cw) := by rw [hn]; exact h.cells.2.2.1
  refine ⟨a1, c1, w3, a2, c2, w4, a3, c3, w5, r1, r2, r3, b3, b5, ⟨keep_cell hc2 b5, ?_⟩, hset⟩
  rw [keep_frozen hc2 b5]
  exact h.cells.2.2.2.2.2.2.2.2 2 (by omega)
end linkBrings
end Go.Proofs.Ytofigofaiadffaa
