/- net.New, has; what one parcel more makes of a net. -/
import Derived.Test.YtmjglgdihlomlaaPush
namespace Go.Proofs.Ytmjglgdihlomlaa
open Go.RowKit Go.ChangeShapes Go.WideShapes Go.ChangeAt Go.Deep

theorem NetM.drew {D : Nat → Prop} {w : World} {cb : Nat} {l : List Pm} (h : NetM D w cb l) : NetM D w.drew cb l := h
/-- The net's cell takes the row that append left. -/
theorem net_put {D : Nat → Prop} {w w' : World} {cb a n c} {l : List Pm} {l' : List Pm} {v' : Value} (hc : D cb ∧ w.frozen? ⟨cb, 0, none⟩ = false ∧ ∀ k, D k → k < w.heap.size) (hcell : w.cell? ⟨cb, 0, none⟩ = some (.slice a n c)) (hr : RowO D w a n c l) (hne : ∀ ad, a = some ad → ad.block ≠ cb)
    (hx : ∀ x ∈ l', ∀ ad, x.a = some ad → ad.block ≠ cb) (h : PushQ D w a n l' v' w') :
    w'.cell? ⟨cb, 0, none⟩ = some (.slice a n c) ∧ w'.frozen? ⟨cb, 0, none⟩ = false ∧ (∃ a2 c2, v' = .slice a2 (n + 1) c2) ∧ NetM (Ex D w w') (w'.setCell ⟨cb, 0, none⟩ v') cb l' ∧ Kp D w (w'.setCell ⟨cb, 0, none⟩ v') := by
  obtain ⟨g, off, c2, rfl, hro, hg, hk⟩ := h
  have hcl := hc.2.2 cb hc.1
  have hb : w'.heap[cb]? = w.heap[cb]? := hk.block cb hcl (fun ⟨ad, e, e2⟩ => hne ad e e2)
  have hgc : g ≠ cb := by
    rcases hg with ⟨ad, e, e2⟩ | hg
    · rw [← e2]; exact hne ad e
    · omega
  have hc' : w'.cell? ⟨cb, 0, none⟩ = some (.slice a n c) := by rw [World.cell?_of_block (w := w) (a := ⟨cb, 0, none⟩) hb]; exact hcell
  have hf' : w'.frozen? ⟨cb, 0, none⟩ = false := by rw [World.frozen?_of_block (w := w) (a := ⟨cb, 0, none⟩) hb]; exact hc.2.1
  have hkk : ∀ k, k ≠ cb → (w'.setCell ⟨cb, 0, none⟩ (.slice (some ⟨g, off, none⟩) (n + 1) c2)).heap[k]? = w'.heap[k]? := fun k hk => Below.heap_setCell _ _ _ _ hk
  refine ⟨hc', hf', ⟨_, _, rfl⟩, ⟨⟨.inl hc.1, by simpa using hf', fun k hd => ?_⟩, _, _, _, World.cell?_setCell_same _ _ _ hc', ?_, fun ad e => by cases e; exact hgc, hx⟩, ?_⟩
  · show k < (w'.setCell ⟨cb, 0, none⟩ _).heap.size
    simp only [World.setCell, Array.size_modify]
    rcases hd with hd | hd
    · exact Nat.lt_of_lt_of_le (hc.2.2 k hd) hk.size
    · exact hd.2
  · obtain ⟨hroom, hap⟩ := hro.room
    have hgb := hkk g hgc
    refine ⟨⟨hro.1.1, hro.1.2.1, hro.1.2.2.1, hro.1.2.2.2.1.keepN (g := cb) (fun ad e => by cases e; exact hgc) (fun k hk _ => hkk k hk), hro.1.2.2.2.2.1, fun x hq => (hro.1.2.2.2.2.2 x hq).keepN (hx x hq) (fun k hk _ => hkk k hk)⟩, fun ad e => ?_⟩
    cases e
    refine ⟨g, off, rfl, fun j hj => ?_, hap⟩
    rw [World.cell?_of_block (w := w') (a := ⟨g, off + j, none⟩) hgb, World.frozen?_of_block (w := w') (a := ⟨g, off + j, none⟩) hgb]
    exact hroom j hj
  · exact Kp.put ⟨hk.os, hk.tape, hk.output, hk.size, fun k h1 hd => hk.block k h1 (fun ⟨ad, e, e2⟩ => hd (e2 ▸ hr.1.2.2.2.2.1 ad e))⟩ (.inl hc.1) _

/-- A copy that was just made is a parcel in memory. -/
theorem pm_new {W w1 : World} {x : Pc} {a1 : Option Addr} {n1 c1 : Nat} (ho : w1.ownsRow W.heap.size 5 1 (.slice a1 n1 c1) x.2.2.length (bV x.2.2)) (hB : Byt x.2.2) : n1 = x.2.2.length ∧ Pm.ok (fun k => W.heap.size ≤ k ∧ k < w1.heap.size) w1 ⟨x, a1, n1, c1⟩ ∧ ∀ ad, a1 = some ad → W.heap.size ≤ ad.block := by
  have hl := ho.1
  rcases ho.2 with ⟨e, h0⟩ | ⟨g, cap, cur, e, h1, h2, h3, h4, h5, h6⟩
  · simp only [Value.slice.injEq] at e
    obtain ⟨rfl, rfl, rfl⟩ := e
    have hx : x.2.2 = [] := List.eq_nil_of_length_eq_zero h0
    refine ⟨by rw [hx]; rfl, ⟨by rw [hx]; rfl, hB, ⟨Nat.le_refl _, Nat.zero_le _⟩, fun _ => ⟨rfl, rfl⟩, .inl (by rw [hx]; rfl), fun ad e => by cases e⟩, fun ad e => by cases e⟩
  · simp only [Value.slice.injEq] at e
    obtain ⟨rfl, rfl, rfl⟩ := e
    have hlt : g < w1.heap.size := (Array.getElem?_eq_some_iff.1 h2).1
    refine ⟨rfl, ⟨rfl, hB, ⟨h3, h4⟩, (fun e => by cases e), .inr ⟨g, 0, rfl, fun j u hu => ?_⟩, fun ad e => by cases e; exact ⟨h1, hlt⟩⟩, fun ad e => by cases e; exact h1⟩
    have := ho.cells (g := g) rfl j u hu
    rwa [add_none] at this

/-- The step of Send: behind the copy, and the row of one that holds it, the append and the store. -/
theorem send_step {D : Nat → Prop} {W w1 w2 : World} {cb n c : Nat} {a : Option Addr} {l : List Pm} {x : Pc} {a1 : Option Addr} {n1 c1 : Nat}
    (hc : D cb ∧ W.frozen? ⟨cb, 0, none⟩ = false ∧ ∀ k, D k → k < W.heap.size) (hcell : W.cell? ⟨cb, 0, none⟩ = some (.slice a n c)) (hr : RowO D W a n c l) (hne : ∀ ad, a = some ad → ad.block ≠ cb) (hxs : ∀ x ∈ l, ∀ ad, x.a = some ad → ad.block ≠ cb)
    (ho : w1.ownsRow W.heap.size 5 1 (.slice a1 n1 c1) x.2.2.length (bV x.2.2)) (hB : Byt x.2.2) (hb : Below W.heap.size W w1) (hn : n ≤ 20000)
    (h2 : w2 = w1.alloc (.cells #[.int .i64 x.1, .int .i64 x.2.1, .slice a1 n1 c1] 37)) (ty : TypeId) :
    ∃ v' w', (Builtin.append_ #[28, 28] ty #[.slice a n c, .slice (some ⟨w1.heap.size, 0, none⟩) 1 1]).run Try.prog w2 = .ok v' w' ∧ w'.cell? ⟨cb, 0, none⟩ = some (.slice a n c) ∧ w'.frozen? ⟨cb, 0, none⟩ = false ∧ (∃ a2 c2, v' = .slice a2 (n + 1) c2) ∧ NetM (Ex D W w') (w'.setCell ⟨cb, 0, none⟩ v') cb (l ++ [⟨x, a1, n1, c1⟩]) ∧ Kp D W (w'.setCell ⟨cb, 0, none⟩ v') := by
  obtain ⟨_, hok, hfr⟩ := pm_new ho hB
  have hb2 : Below W.heap.size W w2 := by rw [h2]; exact hb.alloc hb.size _
  have hb12 : Below w1.heap.size w1 w2 := by rw [h2]; exact below_new _ _
  have hs2 : w2.heap.size = w1.heap.size + 1 := by rw [h2]; simp
  have hD2 : ∀ k, Ex D W w2 k → k < w2.heap.size := fun k hk => by
    rcases hk with hk | hk
    · exact Nat.lt_of_lt_of_le (hc.2.2 k hk) hb2.size
    · exact hk.2
  have hr2 : RowO (Ex D W w2) w2 a n c l := (hr.keep hc.2.2 fun k _ hk => hb2.block k hk).mono fun k hk => .inl hk
  have hcl := hc.2.2 cb hc.1
  have hcb := hb2.block cb hcl
  have hc2 : (Ex D W w2) cb ∧ w2.frozen? ⟨cb, 0, none⟩ = false ∧ ∀ k, (Ex D W w2) k → k < w2.heap.size := ⟨.inl hc.1, by rw [World.frozen?_of_block (w := W) (a := ⟨cb, 0, none⟩) hcb]; exact hc.2.1, hD2⟩
  have hcell2 : w2.cell? ⟨cb, 0, none⟩ = some (.slice a n c) := by rw [World.cell?_of_block (w := W) (a := ⟨cb, 0, none⟩) hcb]; exact hcell
  have hok2 : Pm.ok (Ex D W w2) w2 ⟨x, a1, n1, c1⟩ := ((hok.keep fun k _ hk => hb12.block k hk).mono fun k hk => .inr ⟨hk.1, by omega⟩)
  obtain ⟨v', w', hrun, hq⟩ := push_run hr2 ⟨x, a1, n1, c1⟩ hok2 hD2 (fun ad ad' e e' => by
    have h3 := hfr ad' e'
    have h4 := hc.2.2 _ (hr.1.2.2.2.2.1 ad e)
    omega) w1.heap.size (by rw [h2]; exact reads_new w1 (Pm.cs ⟨x, a1, n1, c1⟩) 37) hn ty
  obtain ⟨q1, q2, q3, q4, q5⟩ := net_put hc2 hcell2 hr2 hne (fun y hy ad e => by
    rw [List.mem_append, List.mem_singleton] at hy
    rcases hy with hy | rfl
    · exact hxs y hy ad e
    · have h3 := hfr ad e
      omega) hq
  have hkq : w2.heap.size ≤ w'.heap.size := by
    have := q5.size
    simpa [World.setCell] using this
  refine ⟨v', w', hrun, q1, q2, q3, q4.mono (fun k hk => ?_) (fun k hk => ?_), ?_⟩
  · rcases hk with (hk | hk) | hk
    · exact .inl hk
    · exact .inr ⟨hk.1, by omega⟩
    · exact .inr ⟨by have := hb2.size; omega, hk.2⟩
  · show k < (w'.setCell ⟨cb, 0, none⟩ _).heap.size
    simp only [World.setCell, Array.size_modify]
    rcases hk with hk | hk
    · have := hc.2.2 k hk; have := hb2.size; omega
    · exact hk.2
  · exact (Kp.of_below hb2).trans' q5 (fun i hi => hi.elim .inl fun h => .inr h.1)

/-- net.New. -/
def NewPost (w : World) (e : Ending) (w' : World) : Prop := ∃ cb, e = .returned (.pointer (some ⟨cb, 0, none⟩)) ∧ NetP (fun k => k = cb) w' cb [] ∧ w.heap.size ≤ cb ∧ Below w.heap.size w w'
theorem net_new (w : World) (t : TypeId) : NetP (fun k => k = w.heap.size) (w.alloc (.cells #[.slice none 0 0] t)) w.heap.size [] := by
  have hb := BoxL.new w [.slice none 0 0] t
  refine ⟨[], rfl, ⟨rfl, (hb.2 0 (by simp)).2, fun k hk => by subst hk; simp⟩, none, 0, 0, (hb.2 0 (by simp)).1, ⟨⟨rfl, ⟨Nat.le_refl _, Nat.zero_le _⟩, fun _ => ⟨rfl, rfl⟩, .inl rfl, (fun ad e => by cases e), fun x hx => by simp at hx⟩, fun ad e => by cases e⟩, (fun ad e => by cases e), fun x hx => by simp at hx⟩
set_option maxRecDepth 100000 in
set_option maxHeartbeats 400000 in
theorem new_any (w : World) : Calls Try.prog 9 #[] w (NewPost w) := by
  go_enter Try.func9, Try.ntmps9
  go_wp2
  go_ret
  exact ⟨w.heap.size, rfl, net_new w 50, Nat.le_refl _, below_new w _⟩

def hasB (n : Nat) (k : Int) : Bool := decide (0 ≤ k ∧ k < (n : Int))
/-- (*net.Net).has. -/
theorem has_any (cb : Nat) (a : Option Addr) (n c : Nat) (k : Int) (w : World) (hc : w.cell? ⟨cb, 0, none⟩ = some (.slice a n c)) :
    Calls Try.prog 25 #[.pointer (some ⟨cb, 0, none⟩), .int .i64 k] w fun e w' => e = .returned (.bool (hasB n k)) ∧ w' = w := by
  by_cases h0 : 0 ≤ k
  · by_cases h1 : k < (n : Int)
    · have HO := hide (show hasB n k = true by simp [hasB]; omega)
      go_enter Try.func25, Try.ntmps25
      go_wp2
      go_ret
      exact ⟨by rw [HO.out]; rfl, rfl⟩
    · have HO := hide (show hasB n k = false by simp [hasB]; omega)
      go_enter Try.func25, Try.ntmps25
      go_wp2
      go_ret
      exact ⟨by rw [HO.out]; rfl, rfl⟩
  · have HO := hide (show hasB n k = false by simp [hasB]; omega)
    go_enter Try.func25, Try.ntmps25
    go_wp2
    go_ret
    exact ⟨by rw [HO.out]; rfl, rfl⟩

end Go.Proofs.Ytmjglgdihlomlaa
