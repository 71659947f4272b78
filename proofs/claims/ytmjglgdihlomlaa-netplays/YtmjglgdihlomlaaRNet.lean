/- The document's net: Send. -/
import Derived.Test.YtmjglgdihlomlaaAlv
namespace Go.Proofs.Ytmjglgdihlomlaa
open Go.RowKit Go.ChangeShapes Go.WideShapes Go.ChangeAt Go.Deep

/-- No two parcels share their bytes, and each has its own to turn. -/
def Exc (w : World) (l : List Pm) : Prop := l.Pairwise (fun x y => ∀ ad ad', x.a = some ad → y.a = some ad' → ad.block ≠ ad'.block) ∧ ∀ x ∈ l, w.ownsRow 0 5 1 (.slice x.a x.n x.c) x.n (bV x.p.2.2)
def NetR (D : Nat → Prop) (w : World) (cb : Nat) (L : List Pc) : Prop := ∃ l, l.map Pm.p = L ∧ NetM D w cb l ∧ Exc w l
theorem Exc.keep {D : Nat → Prop} {w w' : World} {l : List Pm} (h : Exc w l) (hD : ∀ x ∈ l, ∀ ad, x.a = some ad → D ad.block) (hk : ∀ k, D k → k < w.heap.size → w'.heap[k]? = w.heap[k]?) : Exc w' l := by
  refine ⟨h.1, fun x hx => ?_⟩
  have ho := h.2 x hx
  refine ⟨ho.1, ?_⟩
  rcases ho.2 with h2 | ⟨g, cap, cur, e, h1, h2, h3⟩
  · exact .inl h2
  · simp only [Value.slice.injEq] at e
    have hg : D g := hD x hx _ e.1
    exact .inr ⟨g, cap, cur, by simp only [Value.slice.injEq]; exact e, h1, by rw [hk g hg (Array.getElem?_eq_some_iff.1 h2).1]; exact h2, h3⟩
theorem NetM.blocks {D : Nat → Prop} {w : World} {cb : Nat} {l : List Pm} (h : NetM D w cb l) : ∀ x ∈ l, ∀ ad, x.a = some ad → D ad.block := by
  obtain ⟨_, a, n, c, _, hr, _⟩ := h
  exact fun x hx => (hr.1.2.2.2.2.2 x hx).2.2.2.2.2
theorem NetR.keep {D : Nat → Prop} {w w' : World} {cb : Nat} {L : List Pc} (h : NetR D w cb L) (hs : w.heap.size ≤ w'.heap.size) (hk : ∀ k, D k → k < w.heap.size → w'.heap[k]? = w.heap[k]?) : NetR D w' cb L := by
  obtain ⟨l, e, h1, h2⟩ := h
  exact ⟨l, e, h1.keep hs hk, h2.keep h1.blocks hk⟩
theorem NetR.below {D : Nat → Prop} {w w' : World} {cb : Nat} {L : List Pc} (h : NetR D w cb L) (hb : Below w.heap.size w w') : NetR D w' cb L := h.keep hb.size fun k _ hk => hb.block k hk
theorem NetR.lt {D : Nat → Prop} {w : World} {cb : Nat} {L : List Pc} (h : NetR D w cb L) : ∀ k, D k → k < w.heap.size := by
  obtain ⟨l, e, h, _⟩ := h
  exact h.1.2.2
theorem NetR.other {D D' : Nat → Prop} {w w' : World} {cb : Nat} {L : List Pc} (h : NetR D w cb L) (hk : Kp D' w w') (hd : ∀ k, D k → ¬ D' k) : NetR D w' cb L := h.keep hk.size fun k h1 h2 => hk.block k h2 (hd k h1)
/-- One more, with bytes of its own. -/
theorem exc_more {W w1 w9 : World} {l : List Pm} {D : Nat → Prop} {x : Pc} {a1 : Option Addr} {n1 c1 : Nat} {cb : Nat} {v : Value} (h : Exc W l) (hl : ∀ x ∈ l, ∀ ad, x.a = some ad → D ad.block) (hD : ∀ k, D k → k < W.heap.size) (hb : Below W.heap.size W w1) (ho : w1.ownsRow W.heap.size 5 1 (.slice a1 n1 c1) x.2.2.length (bV x.2.2))
    (hn : n1 = x.2.2.length) (hk : ∀ k, k < w1.heap.size → (∃ y ∈ l ++ [⟨x, a1, n1, c1⟩], ∃ ad, y.a = some ad ∧ ad.block = k) → (w9.setCell ⟨cb, 0, none⟩ v).heap[k]? = w1.heap[k]?) : Exc (w9.setCell ⟨cb, 0, none⟩ v) (l ++ [⟨x, a1, n1, c1⟩]) := by
  have hfr : ∀ ad, a1 = some ad → W.heap.size ≤ ad.block ∧ ad.block < w1.heap.size := fun ad e => by
    subst e
    exact ho.lt ad.block rfl
  have key : ∀ y : Pm, y ∈ l ++ [⟨x, a1, n1, c1⟩] → w1.ownsRow 0 5 1 (.slice y.a y.n y.c) y.n (bV y.p.2.2) → (w9.setCell ⟨cb, 0, none⟩ v).ownsRow 0 5 1 (.slice y.a y.n y.c) y.n (bV y.p.2.2) := fun y hy h => by
    refine ⟨h.1, ?_⟩
    rcases h.2 with h2 | ⟨g, cap, cur, e, h1, h2, h3⟩
    · exact .inl h2
    · have e' := e
      simp only [Value.slice.injEq] at e
      exact .inr ⟨g, cap, cur, e', h1, by rw [hk g (Array.getElem?_eq_some_iff.1 h2).1 ⟨y, hy, _, e.1, rfl⟩]; exact h2, h3⟩
  refine ⟨?_, fun y hy => ?_⟩
  · rw [List.pairwise_append]
    refine ⟨h.1, by simp, fun y hy z hz ad ad' e e' => ?_⟩
    simp only [List.mem_singleton] at hz
    subst hz
    have h1 := hD _ (hl y hy ad e)
    have h2 := (hfr ad' e').1
    omega
  · have hy' := hy
    rw [List.mem_append, List.mem_singleton] at hy
    rcases hy with hy | rfl
    · exact key y hy' (own_below (h.2 y hy) hb)
    · exact key _ hy' (by subst hn; exact own_mono ho (Nat.zero_le _))

theorem send_stepX {D : Nat → Prop} {W w1 w2 : World} {cb n c : Nat} {a : Option Addr} {l : List Pm} {x : Pc} {a1 : Option Addr} {n1 c1 : Nat}
    (hc : D cb ∧ W.frozen? ⟨cb, 0, none⟩ = false ∧ ∀ k, D k → k < W.heap.size) (hcell : W.cell? ⟨cb, 0, none⟩ = some (.slice a n c)) (hr : RowO D W a n c l) (hne : ∀ ad, a = some ad → ad.block ≠ cb) (hxs : ∀ x ∈ l, ∀ ad, x.a = some ad → ad.block ≠ cb)
    (ho : w1.ownsRow W.heap.size 5 1 (.slice a1 n1 c1) x.2.2.length (bV x.2.2)) (hB : Byt x.2.2) (hb : Below W.heap.size W w1) (hn : n ≤ 20000)
    (h2 : w2 = w1.alloc (.cells #[.int .i64 x.1, .int .i64 x.2.1, .slice a1 n1 c1] 37)) (ty : TypeId) :
    ∃ v' w', (Builtin.append_ #[28, 28] ty #[.slice a n c, .slice (some ⟨w1.heap.size, 0, none⟩) 1 1]).run Try.prog w2 = .ok v' w' ∧ w'.cell? ⟨cb, 0, none⟩ = some (.slice a n c) ∧ w'.frozen? ⟨cb, 0, none⟩ = false ∧ (∃ a2 c2, v' = .slice a2 (n + 1) c2) ∧ NetM (Ex D W w') (w'.setCell ⟨cb, 0, none⟩ v') cb (l ++ [⟨x, a1, n1, c1⟩]) ∧ Kp D W (w'.setCell ⟨cb, 0, none⟩ v') ∧ ∀ k, k < w1.heap.size → (∀ ad, a = some ad → ad.block ≠ k) → k ≠ cb → (w'.setCell ⟨cb, 0, none⟩ v').heap[k]? = w1.heap[k]? := by
  obtain ⟨_, hok, hfr⟩ := pm_new ho hB
  have hb2 : Below W.heap.size W w2 := by rw [h2]; exact hb.alloc hb.size _
  have hb12 : Below w1.heap.size w1 w2 := by rw [h2]; exact below_new _ _
  have hs2 : w2.heap.size = w1.heap.size + 1 := by rw [h2]; simp
  have hD2 : ∀ k, Ex D W w2 k → k < w2.heap.size := fun k hk => by
    rcases hk with hk | hk
    · exact Nat.lt_of_lt_of_le (hc.2.2 k hk) hb2.size
    · exact hk.2
  have hr2 : RowO (Ex D W w2) w2 a n c l := (hr.keep hc.2.2 fun k _ hk => hb2.block k hk).mono fun k hk => .inl hk
  have hcl := hc.2.2 cb hc.1
  have hcb := hb2.block cb hcl
  have hc2 : (Ex D W w2) cb ∧ w2.frozen? ⟨cb, 0, none⟩ = false ∧ ∀ k, (Ex D W w2) k → k < w2.heap.size := ⟨.inl hc.1, by rw [World.frozen?_of_block (w := W) (a := ⟨cb, 0, none⟩) hcb]; exact hc.2.1, hD2⟩
  have hcell2 : w2.cell? ⟨cb, 0, none⟩ = some (.slice a n c) := by rw [World.cell?_of_block (w := W) (a := ⟨cb, 0, none⟩) hcb]; exact hcell
  have hok2 : Pm.ok (Ex D W w2) w2 ⟨x, a1, n1, c1⟩ := ((hok.keep fun k _ hk => hb12.block k hk).mono fun k hk => .inr ⟨hk.1, by omega⟩)
  obtain ⟨v', w', hrun, hq⟩ := push_run hr2 ⟨x, a1, n1, c1⟩ hok2 hD2 (fun ad ad' e e' => by
    have h3 := hfr ad' e'
    have h4 := hc.2.2 _ (hr.1.2.2.2.2.1 ad e)
    omega) w1.heap.size (by rw [h2]; exact reads_new w1 (Pm.cs ⟨x, a1, n1, c1⟩) 37) hn ty
  obtain ⟨q1, q2, q3, q4, q5⟩ := net_put hc2 hcell2 hr2 hne (fun y hy ad e => by
    rw [List.mem_append, List.mem_singleton] at hy
    rcases hy with hy | rfl
    · exact hxs y hy ad e
    · have h3 := hfr ad e
      omega) hq
  have hkq : w2.heap.size ≤ w'.heap.size := by
    have := q5.size
    simpa [World.setCell] using this
  obtain ⟨_, _, _, _, _, _, hkp⟩ := hq
  refine ⟨v', w', hrun, q1, q2, q3, q4.mono (fun k hk => ?_) (fun k hk => ?_), ?_, fun k h1 h2 h3 => ?_⟩
  · rcases hk with (hk | hk) | hk
    · exact .inl hk
    · exact .inr ⟨hk.1, by omega⟩
    · exact .inr ⟨by have := hb2.size; omega, hk.2⟩
  · show k < (w'.setCell ⟨cb, 0, none⟩ _).heap.size
    simp only [World.setCell, Array.size_modify]
    rcases hk with hk | hk
    · have := hc.2.2 k hk; have := hb2.size; omega
    · exact hk.2
  · exact (Kp.of_below hb2).trans' q5 (fun i hi => hi.elim .inl fun h => .inr h.1)
  · rw [Below.heap_setCell _ _ _ _ (by exact h3), hkp.block k (by omega) (fun ⟨ad, e, e2⟩ => h2 ad e e2), hb12.block k h1]

def RSendPost (D : Nat → Prop) (w : World) (cb : Nat) (L ps : List Pc) (e : Ending) (w' : World) : Prop :=
  e = .returned (.int .i64 ((min ps.length (10000 - L.length) : Nat) : Int)) ∧ NetR (Ex D w w') w' cb (L ++ ps.take (10000 - L.length)) ∧ Kp D w w'
end Go.Proofs.Ytmjglgdihlomlaa
