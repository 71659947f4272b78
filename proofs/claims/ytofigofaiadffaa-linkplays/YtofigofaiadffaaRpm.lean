/- LinkPlays: what stands in memory. -/
import Derived.Test.YtofigofaiadffaaRpl
import Derived.Test.YtofigofaiadffaaRid
import Derived.Test.YtofigofaiadffaaInW
namespace Go.Proofs.Ytofigofaiadffaa
open Go.RowKit Go.ChangeShapes Go.WideShapes Go.ChangeAt Go.Deep
namespace linkPlays

theorem rlk_lt {E : Nat → Prop} {w : World} {g : Nat} {k : Kc} {r : Rl} (h : RLk E w g k r) : ∀ j, E j → j < w.heap.size := by
  obtain ⟨_, _, _, _, _, _, _, _, -, -, -, -, -, -, h7⟩ := h
  exact h7
theorem rlk_eg {E : Nat → Prop} {w : World} {g : Nat} {k : Kc} {r : Rl} (h : RLk E w g k r) : E g := by
  obtain ⟨_, _, _, _, _, _, _, _, -, -, -, -, -, h6, -⟩ := h
  exact h6

/-- The two links beside what stood there. -/
structure PM (w W : World) (gx gr : Nat) (D E : Nat → Prop) (s : Lk) (k : Kc) (r : Rl) : Prop where
  bel : Below w.heap.size w W
  lx : LinkP D W gx s
  lr : RLk E W gr k r
  n1 : ∀ j, D j → w.heap.size ≤ j
  n2 : ∀ j, E j → w.heap.size ≤ j
  dj : ∀ j, D j → ¬ E j

section
variable {w W W' : World} {gx gr ab : Nat} {D E : Nat → Prop} {s s' : Lk} {k : Kc} {r r' : Rl} {xs : List Value}
theorem PM.hgx (h : PM w W gx gr D E s k r) : D gx := h.lx.dg
theorem PM.hgr (h : PM w W gx gr D E s k r) : E gr := rlk_eg h.lr
theorem PM.ex1 (h : PM w W gx gr D E s k r) : ∀ j, Ex D W W' j → w.heap.size ≤ j := fun j hj => hj.elim (h.n1 j) fun h1 => by have := h.bel.size; omega
theorem PM.ex2 (h : PM w W gx gr D E s k r) : ∀ j, Ex E W W' j → w.heap.size ≤ j := fun j hj => hj.elim (h.n2 j) fun h1 => by have := h.bel.size; omega
theorem PM.stepX (h : PM w W gx gr D E s k r) (hL : LinkP (Ex D W W') W' gx s') (hK : Kp (fun j => j = gx) W W') : PM w W' gx gr (Ex D W W') E s' k r :=
  ⟨(hK.to_below h.bel.size (fun j e => by rw [e]; exact h.n1 _ h.hgx)) |> fun hb => h.bel.trans hb, hL, h.lr.keep hK.size (fun j hj => hK.block j (rlk_lt h.lr j hj) (fun e => h.dj gx h.hgx (by rw [← e]; exact hj))), h.ex1, h.n2,
    fun j hj he => hj.elim (fun h1 => h.dj j h1 he) fun h1 => by have := rlk_lt h.lr j he; omega⟩
theorem PM.stepX0 (h : PM w W gx gr D E s k r) (hL : LinkP D W' gx s') (hK : Kp (fun j => j = gx) W W') : PM w W' gx gr D E s' k r :=
  ⟨h.bel.trans (hK.to_below h.bel.size (fun j e => by rw [e]; exact h.n1 _ h.hgx)), hL, h.lr.keep hK.size (fun j hj => hK.block j (rlk_lt h.lr j hj) (fun e => h.dj gx h.hgx (by rw [← e]; exact hj))), h.n1, h.n2, h.dj⟩
theorem PM.stepR (h : PM w W gx gr D E s k r) (hR : RLk (Ex E W W') W' gr k r') (hK : Kp E W W') : PM w W' gx gr D (Ex E W W') s k r' :=
  ⟨h.bel.trans (hK.to_below h.bel.size h.n2), h.lx.other hK h.dj, hR, h.n1, h.ex2, fun j hj he => he.elim (h.dj j hj) fun h1 => by have := h.lx.lt j hj; omega⟩
theorem PM.stepR0 (h : PM w W gx gr D E s k r) (hR : RLk E W' gr k r') (hK : Kp E W W') : PM w W' gx gr D E s k r' :=
  ⟨h.bel.trans (hK.to_below h.bel.size h.n2), h.lx.other hK h.dj, hR, h.n1, h.n2, h.dj⟩
theorem PM.below (h : PM w W gx gr D E s k r) (hb : Below W.heap.size W W') : PM w W' gx gr D E s k r :=
  h.stepX0 (h.lx.below hb) (.of_below hb)
theorem PM.put (h : PM w W gx gr D E s k r) {g j : Nat} (h1 : ¬ D g) (h2 : ¬ E g) (h3 : w.heap.size ≤ g) (v : Value) : PM w (W.setCell ⟨g, j, none⟩ v) gx gr D E s k r := by
  have hs : (W.setCell ⟨g, j, none⟩ v).heap.size = W.heap.size := by simp [World.setCell]
  have hb : ∀ i, i ≠ g → (W.setCell ⟨g, j, none⟩ v).heap[i]? = W.heap[i]? := fun i hi => Below.heap_setCell _ _ _ _ hi
  refine ⟨⟨h.bel.os, h.bel.tape, h.bel.output, by rw [hs]; exact h.bel.size, fun i hi => (hb i (by omega)).trans (h.bel.block i hi)⟩, h.lx.keep (by rw [hs]; exact Nat.le_refl _) (fun i hi => hb i (fun e => h1 (by rw [← e]; exact hi))), h.lr.keep (by rw [hs]; exact Nat.le_refl _) (fun i hi => hb i (fun e => h2 (by rw [← e]; exact hi))), h.n1, h.n2, h.dj⟩

/-- And an act's block. -/
structure PA (w W : World) (gx gr ab : Nat) (xs : List Value) (D E : Nat → Prop) (s : Lk) (k : Kc) (r : Rl) : Prop extends PM w W gx gr D E s k r where
  bx : BoxL W ab xs
  b1 : ¬ D ab
  b2 : ¬ E ab
  b3 : w.heap.size ≤ ab
theorem PM.box (h : PM w W gx gr D E s k r) {t : TypeId} (e : W.alloc (.cells xs.toArray t) = W') : PA w W' gx gr W.heap.size xs D E s k r := by
  subst e
  exact ⟨h.below (below_new W _), BoxL.new W xs t, fun e => by have := h.lx.lt _ e; omega, fun e => by have := rlk_lt h.lr _ e; omega, h.bel.size⟩
theorem PA.stepX (h : PA w W gx gr ab xs D E s k r) (hL : LinkP (Ex D W W') W' gx s') (hK : Kp (fun j => j = gx) W W') : PA w W' gx gr ab xs (Ex D W W') E s' k r :=
  ⟨h.toPM.stepX hL hK, h.bx.keep hK.size (hK.block ab h.bx.1 (fun e => h.b1 (by rw [e]; exact h.hgx))), fun e => e.elim h.b1 (fun h1 => by have := h.bx.1; omega), h.b2, h.b3⟩
theorem PA.stepX0 (h : PA w W gx gr ab xs D E s k r) (hL : LinkP D W' gx s') (hK : Kp (fun j => j = gx) W W') : PA w W' gx gr ab xs D E s' k r :=
  ⟨h.toPM.stepX0 hL hK, h.bx.keep hK.size (hK.block ab h.bx.1 (fun e => h.b1 (by rw [e]; exact h.hgx))), h.b1, h.b2, h.b3⟩
theorem PA.stepR (h : PA w W gx gr ab xs D E s k r) (hR : RLk (Ex E W W') W' gr k r') (hK : Kp E W W') : PA w W' gx gr ab xs D (Ex E W W') s k r' :=
  ⟨h.toPM.stepR hR hK, h.bx.keep hK.size (hK.block ab h.bx.1 h.b2), h.b1, fun e => e.elim h.b2 (fun h1 => by have := h.bx.1; omega), h.b3⟩
theorem PA.stepR0 (h : PA w W gx gr ab xs D E s k r) (hR : RLk E W' gr k r') (hK : Kp E W W') : PA w W' gx gr ab xs D E s k r' :=
  ⟨h.toPM.stepR0 hR hK, h.bx.keep hK.size (hK.block ab h.bx.1 h.b2), h.b1, h.b2, h.b3⟩
theorem PA.below (h : PA w W gx gr ab xs D E s k r) (hb : Below W.heap.size W W') : PA w W' gx gr ab xs D E s k r := h.stepX0 (h.lx.below hb) (.of_below hb)
theorem PA.drew (h : PA w W gx gr ab xs D E s k r) : PA w W.drew gx gr ab xs D E s k r := h.below (below_drewN (Below.refl _ _) 1)
theorem PA.drewN (h : PA w W gx gr ab xs D E s k r) (q : Nat) : PA w (W.drewN q) gx gr ab xs D E s k r := h.below (below_drewN (Below.refl _ _) q)
theorem PA.put (h : PA w W gx gr ab xs D E s k r) {g j : Nat} (h1 : ¬ D g) (h2 : ¬ E g) (h3 : w.heap.size ≤ g) (h4 : g ≠ ab) (v : Value) : PA w (W.setCell ⟨g, j, none⟩ v) gx gr ab xs D E s k r :=
  ⟨h.toPM.put h1 h2 h3 v, h.bx.keep (by simp [World.setCell]) (Below.heap_setCell _ _ _ _ (fun e => h4 e.symm)), h.b1, h.b2, h.b3⟩
end

/-- Which blocks may be turned. -/
def Fb (w : World) (ab : Nat) (D E : Nat → Prop) (b : Nat) : Prop := ¬ D b ∧ ¬ E b ∧ w.heap.size ≤ b ∧ b ≠ ab
/-- A text of one's own that may be turned. -/
def FB (w W : World) (ab : Nat) (D E : Nat → Prop) (a : Option Addr) (n c : Nat) : Prop := ∃ bs, W.ownsRow 0 5 1 (.slice a n c) n (bV bs) ∧ bs.length = n ∧ Byt bs ∧ ∀ ad, a = some ad → Fb w ab D E ad.block
theorem FB.below {w W W' : World} {ab n c : Nat} {D E : Nat → Prop} {a : Option Addr} (h : FB w W ab D E a n c) (hb : Below W.heap.size W W') : FB w W' ab D E a n c := by
  obtain ⟨bs, h1, h2, h3, h4⟩ := h
  exact ⟨bs, own_keep h1 (fun ad e => hb.block _ (own_lt h1 ad e).2), h2, h3, h4⟩
theorem FB.at {w W : World} {ab n c j : Nat} {D E : Nat → Prop} {a : Option Addr} (h : FB w W ab D E a n c) (hj : j < n) : ∃ g, a = some ⟨g, 0, none⟩ ∧ Fb w ab D E g ∧ W.frozen? ⟨g, j, none⟩ = false ∧ ∃ x : Nat, x < 256 ∧ W.cell? ⟨g, j, none⟩ = some (.int .u8 (x : Int)) := by
  obtain ⟨bs, h1, h2, h3, h4⟩ := h
  rcases h1.2 with ⟨e, h0⟩ | ⟨g, cap, cur, e, _⟩
  · omega
  · simp only [Value.slice.injEq] at e
    obtain ⟨rfl, _, _⟩ := e
    have hl : j < bs.length := by omega
    have hc := h1.cells (g := g) rfl j (.int .u8 (bs[j] : Int)) (by simp [bV, hl])
    rw [add_none, Nat.zero_add] at hc
    exact ⟨g, rfl, h4 _ rfl, h1.frozenAt j, bs[j], h3 _ (List.getElem_mem _), hc⟩
theorem byt_set {bs : List Nat} {j z : Nat} (h : Byt bs) (hz : z < 256) : Byt (bs.set j z) := fun x hx => by
  rcases List.mem_or_eq_of_mem_set hx with h1 | h1
  · exact h x h1
  · rw [h1]; exact hz
/-- A byte is turned somewhere: a text stays a text. -/
theorem FB.put {w W : World} {ab n c g j z : Nat} {D E : Nat → Prop} {a : Option Addr} (h : FB w W ab D E a n c) (hz : z < 256) : FB w (W.setCell ⟨g, j, none⟩ (.int .u8 (z : Int))) ab D E a n c := by
  obtain ⟨bs, h1, h2, h3, h4⟩ := h
  by_cases hg : ∃ ad, a = some ad ∧ ad.block = g
  · obtain ⟨ad, rfl, rfl⟩ := hg
    rcases h1.2 with ⟨e, h0⟩ | ⟨g, cap, cur, e, _⟩
    · simp at e
    · simp only [Value.slice.injEq, Option.some.injEq] at e
      obtain ⟨rfl, _, _⟩ := e
      have h5 := (h1.stored j (.int .u8 (z : Int))).1
      refine ⟨bs.set j z, ?_, by rw [List.length_set]; exact h2, byt_set h3 hz, h4⟩
      have e : bV (bs.set j z) = (bV bs).set j (.int .u8 (z : Int)) := by simp [bV, List.map_set]
      rw [e]; exact h5
  · exact ⟨bs, own_keep h1 (fun ad e => Below.heap_setCell _ _ _ _ (fun q => hg ⟨ad, e, q⟩)), h2, h3, h4⟩
theorem FB.step {w W W' : World} {ab n c : Nat} {D D' E E' : Nat → Prop} {a : Option Addr} (h : FB w W ab D E a n c) (hk : ∀ j, Fb w ab D E j → j < W.heap.size → W'.heap[j]? = W.heap[j]?) (hD : ∀ j, Fb w ab D E j → j < W.heap.size → Fb w ab D' E' j) : FB w W' ab D' E' a n c := by
  obtain ⟨bs, h1, h2, h3, h4⟩ := h
  exact ⟨bs, own_keep h1 (fun ad e => hk _ (h4 ad e) (own_lt h1 ad e).2), h2, h3, fun ad e => hD _ (h4 ad e) (own_lt h1 ad e).2⟩

/-- A row of frames whose loads may be turned. -/
def FF (w W : World) (ab : Nat) (D E : Nat → Prop) (a : Option Addr) (n c : Nat) (l : List Fm) : Prop := W.ownsRow 0 34 6 (.slice a n c) n (fV l) ∧ l.length = n ∧ ∀ x ∈ l, FB w W ab D E x.t.a x.t.len x.t.cap
theorem FF.at {w W : World} {ab n c i : Nat} {D E : Nat → Prop} {a : Option Addr} {l : List Fm} (h : FF w W ab D E a n c l) (hi : i < l.length) : ∃ b, a = some ⟨b, 0, none⟩ ∧ W.cell? ⟨b, i * 6 + 5, none⟩ = some (.slice l[i].t.a l[i].t.len l[i].t.cap) ∧ FB w W ab D E l[i].t.a l[i].t.len l[i].t.cap := by
  obtain ⟨h1, h2, h3⟩ := h
  obtain ⟨_, _, _, _, _, h5⟩ := fV_at l i hi
  rcases h1.2 with ⟨e, h0⟩ | ⟨g, cap, cur, e, _⟩
  · omega
  · simp only [Value.slice.injEq] at e
    obtain ⟨rfl, _, _⟩ := e
    have hc := h1.cells (g := g) rfl _ _ h5
    rw [add_none, Nat.zero_add] at hc
    exact ⟨g, rfl, hc, h3 _ (List.getElem_mem _)⟩
theorem FF.put {w W : World} {ab n c g j z i : Nat} {D E : Nat → Prop} {a : Option Addr} {l : List Fm} (h : FF w W ab D E a n c l) (hi : i < l.length) (hg : l[i].t.a = some ⟨g, 0, none⟩) (hz : z < 256) : FF w (W.setCell ⟨g, j, none⟩ (.int .u8 (z : Int))) ab D E a n c l := by
  obtain ⟨h1, h2, h3⟩ := h
  obtain ⟨bs, o1, _⟩ := h3 l[i] (List.getElem_mem _)
  refine ⟨own_keep h1 (fun ad e => Below.heap_setCell _ _ _ _ (fun q => own_apart h1 o1 (by decide) ad _ e hg q)), h2, fun x hx => (h3 x hx).put hz⟩
end linkPlays
end Go.Proofs.Ytofigofaiadffaa
