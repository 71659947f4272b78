/- The document's link: Out. -/
import Derived.Test.YtofigofaiadffaaRol
namespace Go.Proofs.Ytofigofaiadffaa
open Go.RowKit Go.ChangeShapes Go.WideShapes Go.ChangeAt Go.Deep

/-- A frame is to come. -/
def ROM (E : Nat → Prop) (w V : World) (g : Nat) (k : Kc) (r : Rl) (now : Int) (i : Nat) (a : Option Addr) (n c : Nat) (l : List Fm) : Prop :=
  RowF w.heap.size V a n c l ∧ l.map Fm.p = (rdueF now (r.op.take i)).map (rfr k r) ∧ RLk E V g k (rgoI now r (i + 1)) ∧ Kp E w V ∧ ∀ j, E j → j < w.heap.size

theorem rgoI_next (now : Int) (r : Rl) (i : Nat) (hi : i < r.op.length) : rgoI now r (i + 1) = { r with op := (r.op.take i).map (rgo now) ++ rgo now r.op[i] :: r.op.drop (i + 1) } := by
  unfold rgoI
  rw [List.take_succ_eq_append_getElem hi, List.map_append]
  simp
theorem rgoI_at (now : Int) (r : Rl) (i : Nat) (hi : i < r.op.length) : rgoI now r i = { r with op := (r.op.take i).map (rgo now) ++ r.op[i] :: r.op.drop (i + 1) } := by
  unfold rgoI
  rw [List.drop_eq_getElem_cons hi]
theorem rdueF_next (now : Int) (l : List Ro) (i : Nat) (hi : i < l.length) : rdueF now (l.take (i + 1)) = rdueF now (l.take i) ++ (if rdue now l[i] then [(l[i].sq, l[i].x)] else []) := by
  rw [List.take_succ_eq_append_getElem hi]
  unfold rdueF
  rw [List.filter_append, List.map_append]
  congr 1
  rw [List.filter_cons]
  split <;> rfl

theorem ROS.open {E : Nat → Prop} {w wr : World} {g : Nat} {k : Kc} {r : Rl} {now : Int} {i : Nat} {a : Option Addr} {n c : Nat} (h : ROS E w wr g k r now i a n c) (hi : i < r.op.length) :
    ∃ b oc t, b ≠ g ∧ wr.cell? ⟨g, 7, none⟩ = some (.slice (some ⟨b, 0, none⟩) r.op.length oc) ∧ (∀ j, wr.frozen? ⟨b, j, none⟩ = false) ∧ t.bs = r.op[i].x ∧ TxO (fun j => E j ∧ j ≠ g) wr t ∧ (∀ ad, t.a = some ad → ad.block ≠ b) ∧ b < w.heap.size ∧
    (wr.cell? ⟨b, i * 4, none⟩ = some (.int .i64 (r.op[i].sq : Nat)) ∧ wr.cell? ⟨b, i * 4 + 1, none⟩ = some (.int .i64 r.op[i].tt) ∧ wr.cell? ⟨b, i * 4 + 2, none⟩ = some (.int .i64 (r.op[i].n : Nat)) ∧ wr.cell? ⟨b, i * 4 + 3, none⟩ = some (.slice t.a t.len t.cap)) ∧
    (wr.cell? ⟨g, 0, none⟩ = some (.int .i64 k.self) ∧ wr.cell? ⟨g, 1, none⟩ = some (.int .i64 k.peer) ∧ wr.cell? ⟨g, 2, none⟩ = some (.int .i64 k.life) ∧ wr.cell? ⟨g, 6, none⟩ = some (.int .i64 (r.all : Nat))) ∧
    (rdue now r.op[i] = true → ∀ q, ∃ l, ROM E w (putT (wr.drewN q) b (i * 4) now ((r.op[i].n : Int) + 1)) g k r now i a n c l) ∧ (rdue now r.op[i] = false → ∀ q, ROS E w (wr.drewN q) g k r now (i + 1) a n c) := by
  obtain ⟨l, h1, h2, h3, h4, h5⟩ := h
  have hle : i < (rgoI now r i).op.length := by rw [rgoI_at now r i hi]; simp; omega
  have hlen : (rgoI now r i).op.length = r.op.length := by rw [rgoI_at now r i hi]; simp; omega
  have hat : (rgoI now r i).op[i] = r.op[i] := by
    have h6 : (rgoI now r i).op[i]? = r.op[i]? := by
      rw [rgoI_at now r i hi]
      show (_ ++ _ :: _)[i]? = _
      rw [List.getElem?_append_right (by simp; omega)]
      simp [hi, show i - min i r.op.length = 0 by omega]
    rw [List.getElem?_eq_getElem hle, List.getElem?_eq_getElem hi] at h6
    simpa using h6
  obtain ⟨b, oc, hbg, hE, c7, hf, t, e1, e2, e3, d0, d1, d2, d3, hgo⟩ := h3.load hle
  obtain ⟨c0, c1, c2, c6, -, -, -⟩ := h3.cells
  rw [hat] at e1 d0 d1 d2 hgo
  rw [hlen] at c7
  refine ⟨b, oc, t, hbg, c7, hf, e1, e2, e3, h5 b hE, ⟨d0, d1, d2, d3⟩, ⟨c0, c1, c2, c6⟩, fun hd q => ⟨l, ?_⟩, fun hd q => ?_⟩
  · have hb : b < w.heap.size := h5 b hE
    have e4 : (putT (wr.drewN q) b (i * 4) now ((r.op[i].n : Int) + 1)).heap.size = wr.heap.size := by rw [putT_size]; rfl
    refine ⟨h1.keep (by rw [e4]; exact Nat.le_refl _) (fun j hj _ => putT_keep (by omega)), h2, ?_, ⟨h4.os, h4.tape, h4.output, by rw [e4]; exact h4.size, fun j hj hn => (putT_keep (w := wr.drewN q) (show j ≠ b from fun e => hn (by rw [e]; exact hE))).trans (h4.block j hj hn)⟩, h5⟩
    have h8 := (hgo now).keep (w' := putT (wr.drewN q) b (i * 4) now ((r.op[i].n : Int) + 1)) (by rw [e4, putT_size]; exact Nat.le_refl _) (fun _ _ => rfl)
    rw [rgoI_next now r i hi]
    rw [rgoI_at now r i hi] at h8
    have h9 : ((r.op.take i).map (rgo now) ++ r.op[i] :: r.op.drop (i + 1)).set i ⟨r.op[i].sq, now, r.op[i].n + 1, r.op[i].x⟩ = (r.op.take i).map (rgo now) ++ rgo now r.op[i] :: r.op.drop (i + 1) := by
      rw [List.set_append_right _ _ (by simp; omega)]
      simp only [List.length_map, List.length_take, show min i r.op.length = i by omega, Nat.sub_self, List.set_cons_zero]
      unfold rgo
      rw [if_pos hd]
    simp only [h9] at h8
    exact h8
  · refine ⟨l, h1.keep (Nat.le_refl _) (fun _ _ _ => rfl), ?_, ?_, ⟨h4.os, h4.tape, h4.output, h4.size, h4.block⟩, h5⟩
    · rw [rdueF_next now r.op i hi, hd]
      simpa using h2
    · have h8 := h3.keep (w' := wr.drewN q) (Nat.le_refl _) (fun _ _ => rfl)
      rw [rgoI_next now r i hi]
      rw [rgoI_at now r i hi] at h8
      unfold rgo
      rw [hd]
      exact h8

theorem ros_more {E : Nat → Prop} {w V X w4 : World} {g : Nat} {k : Kc} {r : Rl} {now : Int} {i : Nat} {a a' : Option Addr} {n c c' : Nat} {l : List Fm} {y : Fm} (hm : ROM E w V g k r now i a n c l) (hi : i < r.op.length) (hd : rdue now r.op[i] = true)
    (hr4 : RowF w.heap.size w4 a' (n + 1) c' (l ++ [y])) (hy : y.p = rfr k r (r.op[i].sq, r.op[i].x)) (hb : Below V.heap.size V X) (hg : X.grownBy w4 (Value.slice a n c).ownBlock) (hrow : ∀ ad, a = some ad → w.heap.size ≤ ad.block) : ROS E w w4 g k r now (i + 1) a' (n + 1) c' := by
  obtain ⟨h1, h2, h3, h4, h5⟩ := hm
  have hrw : ∀ q, (Value.slice a n c).ownBlock = some q → w.heap.size ≤ q := fun q hq => by
    cases a with
    | none => cases hq
    | some ad => simp only [Value.ownBlock, Option.some.injEq] at hq; rw [← hq]; exact hrow ad rfl
  refine ⟨l ++ [y], hr4, ?_, h3.keep (Nat.le_trans hb.size hg.size) (fun j hj => ?_), (h4.below hb).grown hg hrw, h5⟩
  · rw [rdueF_next now r.op i hi, hd, List.map_append, List.map_append, h2]
    simp [hy]
  · have hj' := h5 j hj
    have h6 := h4.size
    have h7 := hb.size
    rw [hg.block j (by omega) (fun e => by have := hrw j e.symm; omega), hb.block j (by omega)]
end Go.Proofs.Ytofigofaiadffaa
