/- Taking a parcel off a row: what is written. -/
import Derived.Test.YtmjglgdihlomlaaSend
import Derived.Lib.SlBuf
namespace Go.Proofs.Ytmjglgdihlomlaa
open Go.RowKit Go.ChangeShapes Go.WideShapes Go.ChangeAt Go.Deep

theorem wrapi {n : Int} (h : -9223372036854775808 ≤ n ∧ n ≤ 9223372036854775807) : IntKind.i64.wrap n = n := by
  unfold IntKind.wrap
  simp [IntKind.signed, IntKind.bits]
  omega
/-- Where 'way[1:]' begins. -/
def at1 (g off c : Nat) : Addr := if c = 1 then ⟨g, off, none⟩ else ⟨g, off + 3, none⟩
theorem slice_to (w : World) (a : Option Addr) (n c k : Nat) (hk : k ≤ c) : (Instr.slice 28 (.slice a n c) none (some (.int .i64 (k : Int))) none).run Try.prog w = .ok (.slice a k c) w := by
  simp [Instr.slice, run_underlying Try.underlying28, Instr.sliceBounds, run_sliceBound (P := Try.prog) w .i64 (k : Int) c .sliceAcap (by omega) (by omega)]
  cases a <;> simp [Addr.add_zero']
theorem slice_from1 (w : World) (g off n c : Nat) (hn : 1 ≤ n) : (Instr.slice 28 (.slice (some ⟨g, off, none⟩) n c) (some (.int .i64 1)) none none).run Try.prog w = .ok (.slice (some (at1 g off c)) (n - 1) (c - 1)) w := by
  simp [Instr.slice, run_underlying Try.underlying28, Instr.sliceBounds, run_sliceBound (P := Try.prog) w .i64 1 n .sliceB (by omega) (by omega)]
  unfold at1
  split <;> simp [add_none]
theorem slice_mid (w : World) (g off n c k : Nat) (hc : k + 1 ≤ c) : (Instr.slice 28 (.slice (some ⟨g, off, none⟩) n c) (some (.int .i64 1)) (some (.int .i64 ((k : Int) + 1))) none).run Try.prog w = .ok (.slice (some (at1 g off c)) k (c - 1)) w := by
  simp [Instr.slice, run_underlying Try.underlying28, Instr.sliceBounds, run_sliceBound (P := Try.prog) w .i64 ((k : Int) + 1) c .sliceAcap (by omega) (by omega), run_sliceBound (P := Try.prog) w .i64 1 (k + 1) .sliceB (by omega) (by omega)]
  unfold at1
  split <;> simp [add_none]
/-- 'copy(way[1:k+1], way[:k])': all is read before anything is written. -/
theorem run_copy3 (w : World) (ty : TypeId) (b o : Nat) (d : Addr) (k c c' : Nat) (a : Addr) (cs : List Value) (hn : cs.length = k * 3) (hd : 0 < k → d = ⟨b, o, none⟩)
    (hsrc : ∀ j v, cs[j]? = some v → w.cell? (a.add j) = some v) (hc : ∀ j, j < cs.length → (w.cell? ⟨b, o + j, none⟩).isSome = true) (hf : ∀ j, j < cs.length → w.frozen? ⟨b, o + j, none⟩ = false) (h1 : ∀ v ∈ cs, v.oneCell' = true) :
    (Builtin.copy_ #[28, 28] ty #[.slice (some d) k c, .slice (some a) k c']).run Try.prog w = .ok (goInt k) (w.setCells b o cs) := by
  obtain ⟨i0, hi, _, hz1, _⟩ := info_parts Try.info37
  have hl := run_loadCells_list (P := Try.prog) w a cs hsrc
  by_cases hk : 0 < k
  · rw [hd hk]
    have hst := run_storeCells_cells (P := Try.prog) b o cs 0 w (by simpa using hc) (by simpa using hf) h1
    simp [Builtin.copy_, run_underlying Try.underlying28, Builtin.lenOf, Builtin.firstCells, sizeOf, typeInfo, hi, hz1, ← hn, hl, hst]
  · obtain rfl : k = 0 := by omega
    obtain rfl : cs = [] := List.eq_nil_of_length_eq_zero (by simpa using hn)
    have hl' : (loadCells a 0).run Try.prog w = .ok #[] w := by simpa using hl
    simp [Builtin.copy_, run_underlying Try.underlying28, Builtin.lenOf, Builtin.firstCells, sizeOf, typeInfo, hi, hl', storeCells, World.setCells]

theorem size_setCells (g : Nat) : ∀ (vs : List Value) (o : Nat) (w : World), (w.setCells g o vs).heap.size = w.heap.size := by
  intro vs
  induction vs with
  | nil => intro o w; rfl
  | cons v r ih => intro o w; simp [World.setCells, ih, World.setCell]
theorem heap_setCells (g : Nat) : ∀ (vs : List Value) (o : Nat) (w : World) (q : Nat), q ≠ g → (w.setCells g o vs).heap[q]? = w.heap[q]? := by
  intro vs
  induction vs with
  | nil => intro o w q _; rfl
  | cons v r ih => intro o w q hq; simp only [World.setCells]; rw [ih _ _ _ hq, Below.heap_setCell _ _ _ _ hq]
theorem tape_setCells (g : Nat) : ∀ (vs : List Value) (o : Nat) (w : World), (w.setCells g o vs).tape = w.tape := by
  intro vs
  induction vs with
  | nil => intro o w; rfl
  | cons v r ih => intro o w; simp only [World.setCells]; rw [ih]; rfl
/-- The row behind 'take'. -/
theorem row_take {D : Nat → Prop} {w : World} {g off n c k : Nat} {l : List Pm} (h : RowO D w (some ⟨g, off, none⟩) n c l) (hk : k < n) :
    RowO D (put3 (w.setCells g (off + 3) (cV (l.take k))) g off (.int .i64 0) (.int .i64 0) (.slice none 0 0)) (some (at1 g off c)) (n - 1) (c - 1) (l.eraseIdx k) ∧
    (∀ q, q ≠ g → (put3 (w.setCells g (off + 3) (cV (l.take k))) g off (.int .i64 0) (.int .i64 0) (.slice none 0 0)).heap[q]? = w.heap[q]?) ∧
    (put3 (w.setCells g (off + 3) (cV (l.take k))) g off (.int .i64 0) (.int .i64 0) (.slice none 0 0)).heap.size = w.heap.size := by
  have hl := h.1.1
  have hnc := h.1.2.1
  obtain ⟨hroom, hap⟩ := h.room
  have hcells := h.cells
  have hlt : (cV (l.take k)).length = k * 3 := by rw [cV_len, List.length_take]; omega
  have hsz := size_setCells g
  have hot := heap_setCells g
  have hso : ∀ q, q ≠ g → (put3 (w.setCells g (off + 3) (cV (l.take k))) g off (.int .i64 0) (.int .i64 0) (.slice none 0 0)).heap[q]? = w.heap[q]? := fun q hq => by rw [put3_keep hq, hot _ _ _ _ hq]
  have hw1 : ∀ j, j < c * 3 → ((w.setCells g (off + 3) (cV (l.take k))).cell? ⟨g, off + j, none⟩).isSome = true := fun j hj => by
    by_cases hin : 3 ≤ j ∧ j < 3 + k * 3
    · have := World.cell?_setCells_in g (cV (l.take k)) (off + 3) w (fun q hq => by have := hroom (3 + q) (by rw [hlt] at hq; omega); rw [← Nat.add_assoc] at this; exact this.1) (j - 3) (by omega)
      rw [show off + 3 + (j - 3) = off + j by omega] at this
      rw [this]; rfl
    · rw [World.cell?_setCells_out g (cV (l.take k)) (off + 3) w ⟨g, off + j, none⟩ (fun _ _ => by simp [hlt]; omega)]
      exact (hroom j hj).1
  have hput : ∀ j, 3 ≤ j → (put3 (w.setCells g (off + 3) (cV (l.take k))) g off (.int .i64 0) (.int .i64 0) (.slice none 0 0)).cell? ⟨g, off + j, none⟩ = (w.setCells g (off + 3) (cV (l.take k))).cell? ⟨g, off + j, none⟩ := fun j hj => by
    unfold put3
    rw [World.cell?_setCell_other _ _ _ _ (by intro e; simp only [Addr.mk.injEq] at e; omega), World.cell?_setCell_other _ _ _ _ (by intro e; simp only [Addr.mk.injEq] at e; omega), World.cell?_setCell_other _ _ _ _ (by intro e; simp only [Addr.mk.injEq] at e; omega)]
  have hfz : ∀ x, (put3 (w.setCells g (off + 3) (cV (l.take k))) g off (.int .i64 0) (.int .i64 0) (.slice none 0 0)).frozen? x = w.frozen? x := fun x => by
    unfold put3
    rw [World.frozen?_setCell, World.frozen?_setCell, World.frozen?_setCell, World.frozen?_setCells]
  have he : l.eraseIdx k = l.take k ++ l.drop (k + 1) := List.eraseIdx_eq_take_drop_succ l k
  have hel : (l.eraseIdx k).length = n - 1 := by rw [List.length_eraseIdx_of_lt (by omega), hl]
  have hmem : ∀ x ∈ l.eraseIdx k, x ∈ l := fun x hx => List.mem_of_mem_eraseIdx hx
  refine ⟨?_, hso, by rw [put3_size, hsz]⟩
  have hok : ∀ x ∈ l.eraseIdx k, x.ok D (put3 (w.setCells g (off + 3) (cV (l.take k))) g off (.int .i64 0) (.int .i64 0) (.slice none 0 0)) := fun x hx => (h.1.2.2.2.2.2 x (hmem x hx)).keepN (hap x (hmem x hx)) (fun q hq _ => hso q hq)
  have hDg : D g := h.1.2.2.2.2.1 _ rfl
  by_cases hc1 : c = 1
  · obtain rfl : n = 1 := by omega
    obtain rfl : k = 0 := by omega
    have h0 : l.eraseIdx 0 = [] := List.eq_nil_of_length_eq_zero hel
    rw [h0]
    subst hc1
    exact ⟨⟨rfl, ⟨Nat.le_refl _, Nat.zero_le _⟩, (fun e => by cases e), .inl rfl, fun ad e => by cases e; exact hDg, fun x hx => by simp at hx⟩, fun ad e => ⟨g, off, by cases e; rfl, fun j hj => by omega, fun x hx => by simp at hx⟩⟩
  · have ha : at1 g off c = ⟨g, off + 3, none⟩ := by unfold at1; rw [if_neg hc1]
    rw [ha]
    refine ⟨⟨hel, ⟨by omega, by omega⟩, (fun e => by cases e), .inr ⟨g, off + 3, rfl, fun j u hu => ?_⟩, fun ad e => by cases e; exact hDg, hok⟩, fun ad e => ?_⟩
    · rw [show off + 3 + j = off + (3 + j) by omega, hput _ (by omega)]
      rw [he, cV_app] at hu
      by_cases hj : j < k * 3
      · rw [List.getElem?_append_left (by omega)] at hu
        obtain ⟨hj', e⟩ := List.getElem?_eq_some_iff.1 hu
        have := World.cell?_setCells_in g (cV (l.take k)) (off + 3) w (fun q hq => by have := hroom (3 + q) (by rw [hlt] at hq; omega); rw [← Nat.add_assoc] at this; exact this.1) j hj'
        rw [show off + (3 + j) = off + 3 + j by omega, this, e]
      · rw [List.getElem?_append_right (by omega), hlt] at hu
        rw [World.cell?_setCells_out g (cV (l.take k)) (off + 3) w ⟨g, off + (3 + j), none⟩ (fun _ _ => by simp [hlt]; omega)]
        refine hcells (3 + j) u ?_
        have e2 : cV l = cV (l.take (k + 1)) ++ cV (l.drop (k + 1)) := by rw [← cV_app, List.take_append_drop]
        rw [e2, List.getElem?_append_right (by rw [cV_len, List.length_take]; omega), cV_len, List.length_take, show 3 + j - min (k + 1) l.length * 3 = j - k * 3 by omega]
        exact hu
    · cases e
      refine ⟨g, off + 3, rfl, fun j hj => ⟨?_, ?_⟩, fun x hx => hap x (hmem x hx)⟩
      · rw [show off + 3 + j = off + (3 + j) by omega, hput _ (by omega)]
        exact hw1 _ (by omega)
      · rw [hfz, show off + 3 + j = off + (3 + j) by omega]
        exact (hroom _ (by omega)).2

end Go.Proofs.Ytmjglgdihlomlaa
