/- A parcel is put behind a row of one's own. -/
import Derived.Test.YtmjglgdihlomlaaCpy
namespace Go.Proofs.Ytmjglgdihlomlaa
open Go.RowKit Go.ChangeShapes Go.WideShapes Go.ChangeAt Go.Deep

theorem Reads.keepN {w w' : World} {a : Option Addr} {xs : List Value} {g : Nat} (h : Reads w a xs) (hN : ∀ ad, a = some ad → ad.block ≠ g) (hk : ∀ k, k ≠ g → k < w.heap.size → w'.heap[k]? = w.heap[k]?) : Reads w' a xs := by
  rcases h with rfl | ⟨b, off, rfl, h⟩
  · exact .inl rfl
  · refine .inr ⟨b, off, rfl, fun j u hu => ?_⟩
    have hj := h j u hu
    rw [World.cell?_of_block (w := w) (a := ⟨b, off + j, none⟩) (hk b (hN _ rfl) (cell_some_lt hj))]
    exact hj
theorem Pm.ok.keepN {D : Nat → Prop} {w w' : World} {x : Pm} {g : Nat} (h : x.ok D w) (hN : ∀ ad, x.a = some ad → ad.block ≠ g) (hk : ∀ k, k ≠ g → k < w.heap.size → w'.heap[k]? = w.heap[k]?) : x.ok D w' := by
  obtain ⟨h1, h2, h3, h4, h5, h6⟩ := h
  exact ⟨h1, h2, h3, h4, h5.keepN hN hk, h6⟩
/-- A row of one's own whose cells were written: what it holds now. -/
theorem RowO.turn {D : Nat → Prop} {w w' : World} {g off n c n' : Nat} {l l' : List Pm} (h : RowO D w (some ⟨g, off, none⟩) n c l) (hk : ∀ k, k ≠ g → k < w.heap.size → w'.heap[k]? = w.heap[k]?)
    (hc : ∀ j, j < c * 3 → (w'.cell? ⟨g, off + j, none⟩).isSome = true ∧ w'.frozen? ⟨g, off + j, none⟩ = false) (hl : l'.length = n') (hn : n' ≤ c)
    (hr : ∀ j u, (cV l')[j]? = some u → w'.cell? ⟨g, off + j, none⟩ = some u) (hx : ∀ x ∈ l', x.ok D w ∧ ∀ ad, x.a = some ad → ad.block ≠ g) : RowO D w' (some ⟨g, off, none⟩) n' c l' := by
  refine ⟨⟨hl, ⟨hn, h.1.2.1.2⟩, (fun e => by cases e), .inr ⟨g, off, rfl, hr⟩, h.1.2.2.2.2.1, fun x hq => (hx x hq).1.keepN (hx x hq).2 hk⟩, fun ad e => ?_⟩
  cases e
  exact ⟨g, off, rfl, hc, fun x hq => (hx x hq).2⟩
theorem RowO.room {D : Nat → Prop} {w : World} {g off n c : Nat} {l : List Pm} (h : RowO D w (some ⟨g, off, none⟩) n c l) : (∀ j, j < c * 3 → (w.cell? ⟨g, off + j, none⟩).isSome = true ∧ w.frozen? ⟨g, off + j, none⟩ = false) ∧ ∀ x ∈ l, ∀ ad', x.a = some ad' → ad'.block ≠ g := by
  obtain ⟨g', off', e, h1, h2⟩ := h.2 _ rfl
  simp only [Addr.mk.injEq] at e
  obtain ⟨rfl, rfl, _⟩ := e
  exact ⟨h1, h2⟩
theorem RowO.isAt {D : Nat → Prop} {w : World} {a : Option Addr} {n c : Nat} {l : List Pm} (h : RowO D w a n c l) (hc : 0 < c) : ∃ g off, a = some ⟨g, off, none⟩ := by
  cases a with
  | none => have := h.1.2.2.1 rfl; omega
  | some ad =>
    obtain ⟨g, off, e, _⟩ := h.2 ad rfl
    exact ⟨g, off, by rw [e]⟩
theorem RowO.cells {D : Nat → Prop} {w : World} {g off n c : Nat} {l : List Pm} (h : RowO D w (some ⟨g, off, none⟩) n c l) : ∀ j u, (cV l)[j]? = some u → w.cell? ⟨g, off + j, none⟩ = some u := by
  rcases h.1.2.2.2.1 with e | ⟨b, o, e, hr⟩
  · intro j u hu; rw [e] at hu; simp at hu
  · simp only [Option.some.injEq, Addr.mk.injEq] at e
    obtain ⟨rfl, rfl, _⟩ := e
    exact hr
/-- A new row, as append leaves it, is a row of one's own. -/
theorem rowO_new {D : Nat → Prop} {w' : World} {B m : Nat} {v : Value} {l : List Pm} (h : w'.ownsRow B 37 3 v m (cV l)) (hm : 0 < m) (hx : ∀ x ∈ l, x.ok D w' ∧ ∀ ad, x.a = some ad → ad.block < B) :
    ∃ g c, v = .slice (some ⟨g, 0, none⟩) m c ∧ B ≤ g ∧ g < w'.heap.size ∧ RowO (fun k => D k ∨ (B ≤ k ∧ k < w'.heap.size)) w' (some ⟨g, 0, none⟩) m c l := by
  have hlen := h.1
  rw [cV_len] at hlen
  have hl : l.length = m := by omega
  rcases h.2 with ⟨_, h0⟩ | ⟨g, cap, cur, rfl, hB, hg, h1, h2, h3, h4⟩
  · omega
  · have hlt : g < w'.heap.size := (Array.getElem?_eq_some_iff.1 hg).1
    have hcell : ∀ j, w'.cell? ⟨g, j, none⟩ = cur[j]? := fun j => by simp [World.cell?, hg]
    refine ⟨g, cap, rfl, hB, hlt, ⟨hl, ⟨h1, h2⟩, (fun e => by cases e), .inr ⟨g, 0, rfl, fun j u hu => ?_⟩, fun ad e => by cases e; exact .inr ⟨hB, hlt⟩, fun x hq => (hx x hq).1.mono fun k hk => .inl hk⟩, fun ad e => ?_⟩
    · have := h.cells (g := g) rfl j u hu
      rwa [add_none] at this
    · cases e
      refine ⟨g, 0, rfl, fun j hj => ⟨?_, ?_⟩, fun x hq ad' e' => by have := (hx x hq).2 ad' e'; omega⟩
      · rw [hcell]; simp; omega
      · simp [World.frozen?, hg]

theorem Try.info37 : (Try.prog.info? 37).map (fun i => (i.zero, i.size, i.bytes)) = some (some (.agg #[.int .i64 0, .int .i64 0, .slice none 0 0]), 3, 40) := by kernel_rfl
/-- What 'append(way, x)' leaves. -/
def PushQ (D : Nat → Prop) (w : World) (a : Option Addr) (n : Nat) (l : List Pm) (v' : Value) (w' : World) : Prop :=
  ∃ g off c, v' = .slice (some ⟨g, off, none⟩) (n + 1) c ∧ RowO (fun k => D k ∨ (w.heap.size ≤ k ∧ k < w'.heap.size)) w' (some ⟨g, off, none⟩) (n + 1) c l ∧ ((∃ ad, a = some ad ∧ ad.block = g) ∨ w.heap.size ≤ g) ∧ Kp (fun k => ∃ ad, a = some ad ∧ ad.block = k) w w'
theorem push_run {D : Nat → Prop} {w : World} {a : Option Addr} {n c : Nat} {l : List Pm} (h : RowO D w a n c l) (x : Pm) (hx : x.ok D w) (hxl : ∀ k, D k → k < w.heap.size) (hne : ∀ ad ad', a = some ad → x.a = some ad' → ad'.block ≠ ad.block) (bk : Nat) (hb : Reads w (some ⟨bk, 0, none⟩) x.cs) (hn : n ≤ 20000) (ty : TypeId) :
    ∃ v' w', (Builtin.append_ #[28, 28] ty #[.slice a n c, .slice (some ⟨bk, 0, none⟩) 1 1]).run Try.prog w = .ok v' w' ∧ PushQ D w a n (l ++ [x]) v' w' := by
  obtain ⟨i0, hi, hz0, hz1, hz2⟩ := info_parts Try.info37
  have hbk : ∀ j u, x.cs[j]? = some u → w.cell? ((⟨bk, 0, none⟩ : Addr).add j) = some u := by
    rcases hb with e | ⟨b, o, e, hr⟩
    · simp [Pm.cs] at e
    · simp only [Option.some.injEq, Addr.mk.injEq] at e
      obtain ⟨rfl, rfl, _⟩ := e
      intro j u hu
      rw [add_none]; exact hr j u hu
  have hone : ∀ u ∈ x.cs, u.oneCell' = true := fun u hu => cV_one [x] u (by simpa [cV] using hu)
  have hll := h.1.1
  by_cases hr : n + 1 ≤ c
  · obtain ⟨g, off, rfl⟩ := h.isAt (by omega)
    obtain ⟨hroom, hap⟩ := h.room
    have hrun := run_append_room_cells (P := Try.prog) w 28 ty 37 i0 Try.underlying28 hi g off n c ⟨bk, 0, none⟩ 1 1 x.cs (by rw [hz1]; rfl) hbk hone hr (fun j hj => by rw [hz1]; have := hroom (n * 3 + j) (by simp [Pm.cs] at hj; omega); rw [← Nat.add_assoc] at this; exact this.1) (fun j hj => by rw [hz1]; have := hroom (n * 3 + j) (by simp [Pm.cs] at hj; omega); rw [← Nat.add_assoc] at this; exact this.2)
    rw [hz1] at hrun
    have hgl : g < w.heap.size := hxl g (h.1.2.2.2.2.1 _ rfl)
    have hsz : (w.setCells g (off + n * 3) x.cs).heap.size = w.heap.size := by simp [Pm.cs, World.setCells, World.setCell]
    have hother : ∀ k, k ≠ g → (w.setCells g (off + n * 3) x.cs).heap[k]? = w.heap[k]? := fun k hk => put3_keep (w := w) (o := off + n * 3) hk _ _ _
    refine ⟨_, _, hrun, g, off, c, rfl, ?_, .inl ⟨_, rfl, rfl⟩, ⟨rfl, rfl, rfl, by rw [hsz]; exact Nat.le_refl _, fun k hk hd => hother k (fun e => hd ⟨_, rfl, e.symm⟩)⟩⟩
    refine RowO.mono (D := D) ?_ (fun k hk => .inl hk)
    refine h.turn (fun k hk _ => hother k hk) (fun j hj => ⟨?_, ?_⟩) (by simp [hll]) hr (fun j u hu => ?_) (fun y hy => ?_)
    · have h1 := (hroom j hj).1
      by_cases hin : off + n * 3 ≤ off + j ∧ off + j < off + n * 3 + x.cs.length
      · have := World.cell?_setCells_in g x.cs (off + n * 3) w (fun q hq => by have := hroom (n * 3 + q) (by simp [Pm.cs] at hq; omega); rw [← Nat.add_assoc] at this; exact this.1) (j - n * 3) (by omega)
        rw [show off + n * 3 + (j - n * 3) = off + j by omega] at this
        rw [this]; rfl
      · rw [World.cell?_setCells_out g x.cs (off + n * 3) w ⟨g, off + j, none⟩ (fun _ _ => by simp at hin ⊢; omega)]
        exact h1
    · rw [World.frozen?_setCells]; exact (hroom j hj).2
    · rw [cV_app] at hu
      by_cases hlt : j < n * 3
      · rw [List.getElem?_append_left (by rw [cV_len, hll]; exact hlt)] at hu
        rw [World.cell?_setCells_out g x.cs (off + n * 3) w ⟨g, off + j, none⟩ (fun _ _ => by simp; omega)]
        exact h.cells j u hu
      · rw [List.getElem?_append_right (by rw [cV_len, hll]; omega), cV_len, hll] at hu
        have hu' : x.cs[j - n * 3]? = some u := by simpa [cV] using hu
        obtain ⟨hj, e⟩ := List.getElem?_eq_some_iff.1 hu'
        have := World.cell?_setCells_in g x.cs (off + n * 3) w (fun q hq => by have := hroom (n * 3 + q) (by simp [Pm.cs] at hq; omega); rw [← Nat.add_assoc] at this; exact this.1) (j - n * 3) hj
        rw [show off + n * 3 + (j - n * 3) = off + j by omega, e] at this
        exact this
    · rw [List.mem_append, List.mem_singleton] at hy
      rcases hy with hy | rfl
      · exact ⟨h.1.2.2.2.2.2 y hy, hap y hy⟩
      · exact ⟨hx, fun ad e => hne _ _ rfl e⟩
  · have hgrow : ∃ v' w', (Builtin.append_ #[28, 28] ty #[.slice a n c, .slice (some ⟨bk, 0, none⟩) 1 1]).run Try.prog w = .ok v' w' ∧ w'.ownsRow w.heap.size 37 3 v' (n + 1) (cV l ++ x.cs) ∧ w.grownBy w' none := by
      cases a with
      | none =>
        obtain ⟨rfl, rfl⟩ := h.1.2.2.1 rfl
        have hl0 : l = [] := List.eq_nil_of_length_eq_zero hll
        subst hl0
        obtain ⟨v', w', hrun, r1, r2, _⟩ := run_append_own (P := Try.prog) w w.heap.size 28 ty 37 i0 (.agg #[.int .i64 0, .int .i64 0, .slice none 0 0]) 3 40 Try.underlying28 hi hz0 hz1 hz2 rfl (by omega) (.slice none 0 0) 0 [] (World.ownsRow_nil w _ 37 3) ⟨bk, 0, none⟩ 1 1 x.cs rfl hbk hone (by unfold maxLen; omega) (by omega) (Nat.le_refl _)
        exact ⟨v', w', hrun, r1, r2⟩
      | some ad =>
        obtain ⟨g, off, e, _⟩ := h.2 ad rfl
        subst e
        obtain ⟨v', w', hrun, r1, r2⟩ := run_append_arg_grows (P := Try.prog) w 28 ty 37 i0 (.agg #[.int .i64 0, .int .i64 0, .slice none 0 0]) 3 40 Try.underlying28 hi hz0 hz1 hz2 rfl (by omega) ⟨g, off, none⟩ n c (cV l) (by rw [cV_len, hll]) (fun j u hj => by rw [add_none]; exact h.cells j u hj) ⟨bk, 0, none⟩ 1 1 x.cs rfl hbk (by omega) (by unfold maxLen; omega) (by omega)
        exact ⟨v', w', hrun, r1, r2⟩
    obtain ⟨v', w', hrun, r1, r2⟩ := hgrow
    have hb2 : Below w.heap.size w w' := below_of r2
    have e : cV l ++ x.cs = cV (l ++ [x]) := by rw [cV_app]; simp [cV]
    rw [e] at r1
    obtain ⟨g, c', rfl, hg1, hg2, hro⟩ := rowO_new (D := D) r1 (by omega) (fun y hy => by
      rw [List.mem_append, List.mem_singleton] at hy
      rcases hy with hy | rfl
      · have := h.1.2.2.2.2.2 y hy
        exact ⟨this.keep fun k _ hk => hb2.block k hk, fun ad e => hxl _ (this.2.2.2.2.2 ad e)⟩
      · exact ⟨hx.keep fun k _ hk => hb2.block k hk, fun ad e => hxl _ (hx.2.2.2.2.2 ad e)⟩)
    exact ⟨_, _, hrun, g, 0, c', rfl, hro, .inr hg1, .of_below hb2⟩

end Go.Proofs.Ytmjglgdihlomlaa
