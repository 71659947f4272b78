/- Several rings side by side, and a box with an act. -/
import Derived.Test.YtcgapdkehmpmbaaGrR
import Derived.Test.YtcgapdkehmpmbaaSizW
namespace Go.Proofs.Ytcgapdkehmpmbaa
open Go.RowKit Go.ChangeShapes Go.WideShapes Go.ChangeAt Go.Deep

/-- A ring: its blocks, its size, what stands in it. -/
structure Rg where
  cb : Nat
  g : Nat
  n : Nat
  L : List Int

def Dj (a b : Nat × Nat) : Prop := a.1 ≠ b.1 ∧ a.1 ≠ b.2 ∧ a.2 ≠ b.1 ∧ a.2 ≠ b.2

/-- These rings stand there, no two with memory in common, all of it new since w. -/
structure Rs0 (w wr : World) (l : List Rg) : Prop where
  bel : Below w.heap.size w wr
  ok : ∀ r ∈ l, RingP wr r.cb r.g r.n r.L
  ap : (l.map fun r => (r.cb, r.g)).Pairwise Dj
  lo : ∀ r ∈ l, w.heap.size ≤ r.g

/-- And a box beside them. -/
structure Rs (w wr : World) (ab : Nat) (x : List Value) (l : List Rg) : Prop extends Rs0 w wr l where
  box : BoxL wr ab x
  off : ∀ r ∈ l, r.g ≠ ab

theorem Rs0.sub {w wr : World} {l l' : List Rg} (h : Rs0 w wr l) (hs : l'.Sublist l) : Rs0 w wr l' :=
  ⟨h.bel, fun r hr => h.ok r (hs.subset hr), h.ap.sublist (hs.map _), fun r hr => h.lo r (hs.subset hr)⟩

theorem Rs0.below {w wr w' : World} {l : List Rg} (h : Rs0 w wr l) (hb : Below wr.heap.size wr w') : Rs0 w w' l :=
  ⟨h.bel.trans (hb.mono h.bel.size), fun r hr => (h.ok r hr).below hb, h.ap, h.lo⟩

theorem Rs.below {w wr w' : World} {ab : Nat} {x : List Value} {l : List Rg} (h : Rs w wr ab x l) (hb : Below wr.heap.size wr w') : Rs w w' ab x l :=
  ⟨h.toRs0.below hb, h.box.below hb, h.off⟩

theorem Rs.drewN {w wr : World} {ab : Nat} {x : List Value} {l : List Rg} (h : Rs w wr ab x l) (q : Nat) : Rs w (wr.drewN q) ab x l := h.below (below_drewN (Below.refl _ _) q)

theorem Rs0.act {w wr : World} {l : List Rg} (h : Rs0 w wr l) (a b c : Value) : Rs w (wr.alloc (.cells #[a, b, c] 30)) wr.heap.size [a, b, c] l :=
  ⟨h.below (below_new _ _), BoxL.new wr [a, b, c] 30, fun r hr => by have := (h.ok r hr).lt; omega⟩

theorem Rs0.apart {w wr : World} {l : List Rg} (h : Rs0 w wr l) {j k : Nat} {r s : Rg} (hj : l[j]? = some r) (hk : l[k]? = some s) (hjk : j ≠ k) : s.cb ≠ r.g ∧ s.g ≠ r.g := by
  obtain ⟨hj1, hj2⟩ := List.getElem?_eq_some_iff.1 hj
  obtain ⟨hk1, hk2⟩ := List.getElem?_eq_some_iff.1 hk
  have hp := List.pairwise_iff_getElem.1 h.ap
  rcases Nat.lt_or_gt_of_ne hjk with hlt | hlt
  · have := hp j k (by simpa using hj1) (by simpa using hk1) hlt
    simp only [List.getElem_map, hj2, hk2] at this
    exact ⟨fun e => this.2.2.1 e.symm, fun e => this.2.2.2 e.symm⟩
  · have := hp k j (by simpa using hk1) (by simpa using hj1) hlt
    simp only [List.getElem_map, hj2, hk2] at this
    exact ⟨this.2.1, this.2.2.2⟩

theorem Rs.puts {w wr w' : World} {ab : Nat} {x : List Value} {l : List Rg} (h : Rs w wr ab x l) {j : Nat} {r : Rg} (hj : l[j]? = some r) {L : List Int} (hR : RingP w' r.cb r.g r.n L) (hg : wr.grownBy w' (some r.g)) : Rs w w' ab x (l.set j ⟨r.cb, r.g, r.n, L⟩) := by
  obtain ⟨hj1, hj2⟩ := List.getElem?_eq_some_iff.1 hj
  have hm : r ∈ l := hj2 ▸ List.getElem_mem hj1
  have hall : ∀ s ∈ l.set j ⟨r.cb, r.g, r.n, L⟩, s = ⟨r.cb, r.g, r.n, L⟩ ∨ ∃ k, k ≠ j ∧ l[k]? = some s := fun s hs => by
    obtain ⟨k, hk⟩ := List.mem_iff_getElem?.1 hs
    by_cases e : k = j
    · subst e
      left
      rw [List.getElem?_set_self hj1] at hk
      simpa using hk.symm
    · right
      rw [List.getElem?_set_ne (fun e' => e e'.symm)] at hk
      exact ⟨k, e, hk⟩
  refine ⟨⟨h.bel.grown hg h.bel.size (fun k hk => by cases hk; exact h.lo r hm), fun s hs => ?_, ?_, fun s hs => ?_⟩, h.box.grown hg (fun e => h.off r hm e.symm), fun s hs => ?_⟩
  · rcases hall s hs with rfl | ⟨k, hk, e⟩
    · exact hR
    · have := h.apart hj e (fun e' => hk e'.symm)
      have hs' : s ∈ l := List.mem_of_getElem? e
      exact (h.ok s hs').grown hg this.1 this.2
  · have e : (l.set j ⟨r.cb, r.g, r.n, L⟩).map (fun r => (r.cb, r.g)) = l.map fun r => (r.cb, r.g) := by
      rw [List.map_set]
      apply List.ext_getElem?
      intro k
      by_cases e : j = k
      · subst e
        rw [List.getElem?_set_self (by simpa using hj1), List.getElem?_map, hj]
        rfl
      · rw [List.getElem?_set_ne e]
    rw [e]
    exact h.ap
  · rcases hall s hs with rfl | ⟨k, hk, e⟩
    · exact h.lo r hm
    · exact h.lo s (List.mem_of_getElem? e)
  · rcases hall s hs with rfl | ⟨k, hk, e⟩
    · exact h.off r hm
    · exact h.off s (List.mem_of_getElem? e)

theorem Rs.put {w wr : World} {ab : Nat} {x : List Value} {l : List Rg} (h : Rs w wr ab x l) {j : Nat} {r : Rg} (hj : l[j]? = some r) (i v : Int) :
    Calls Try.prog 9 #[.pointer (some ⟨r.cb, 0, none⟩), .int .i64 i, .int .i64 v] wr fun e w' => e = .returned (.tuple #[]) ∧ Rs w w' ab x (l.set j ⟨r.cb, r.g, r.n, r.L.set (plc r.n i) v⟩) := by
  refine (put_any wr r.cb r.g r.n r.L i v (h.ok r (List.mem_of_getElem? hj))).mono ?_
  rintro e w' ⟨rfl, hR, hg⟩
  exact ⟨rfl, h.puts hj hR hg⟩

theorem Rs.rput {w wr : World} {ab : Nat} {x : List Value} {l : List Rg} (h : Rs w wr ab x l) {j : Nat} {r : Rg} (hj : l[j]? = some r) (i v : Int) :
    Calls Try.prog 10 #[.pointer (some ⟨r.cb, 0, none⟩), .int .i64 i, .int .i64 v] wr fun e w' => e = .returned (.tuple #[]) ∧ Rs w w' ab x (l.set j ⟨r.cb, r.g, r.n, r.L.set (plc r.n i) v⟩) := by
  refine (rput_any wr r.cb r.g r.n r.L i v (h.ok r (List.mem_of_getElem? hj))).mono ?_
  rintro e w' ⟨rfl, hR, hg⟩
  exact ⟨rfl, h.puts hj hR hg⟩

theorem Rs.more {w wr w' : World} {ab : Nat} {x : List Value} {l : List Rg} (h : Rs w wr ab x l) {s : Rg} (hR : RingP w' s.cb s.g s.n s.L) (h1 : wr.heap.size ≤ s.cb) (h2 : wr.heap.size ≤ s.g) (hb : Below wr.heap.size wr w') : Rs w w' ab x (s :: l) := by
  have hh := h.below hb
  have hab := h.box.1
  have hsz := h.bel.size
  refine ⟨⟨hh.bel, fun r hr => ?_, ?_, fun r hr => ?_⟩, hh.box, fun r hr => ?_⟩
  · rcases List.mem_cons.1 hr with rfl | hr
    · exact hR
    · exact hh.ok r hr
  · rw [List.map_cons, List.pairwise_cons]
    refine ⟨fun p hp => ?_, hh.ap⟩
    obtain ⟨r, hr, rfl⟩ := List.mem_map.1 hp
    have := (h.ok r hr).lt
    refine ⟨?_, ?_, ?_, ?_⟩ <;> simp only <;> omega
  · rcases List.mem_cons.1 hr with rfl | hr
    · omega
    · exact hh.lo r hr
  · rcases List.mem_cons.1 hr with rfl | hr
    · omega
    · exact hh.off r hr

def GrewPost (w : World) (ab : Nat) (x : List Value) (l : List Rg) (r : Rg) (f t : Int) (e : Ending) (w' : World) : Prop :=
  ∃ cb g, e = .returned (.pointer (some ⟨cb, 0, none⟩)) ∧ Rs w w' ab x (⟨cb, g, gsz r.n, growK r.n (gsz r.n) r.L f (cnt r.n f t)⟩ :: l)

theorem Rs.grown {w wr : World} {ab : Nat} {x : List Value} {l : List Rg} (h : Rs w wr ab x l) {j : Nat} {r : Rg} (hj : l[j]? = some r) (f t : Int) (hf : I64 f) (ht : I64 t) :
    Calls Try.prog 11 #[.pointer (some ⟨r.cb, 0, none⟩), .int .i64 f, .int .i64 t] wr (GrewPost w ab x l r f t) := by
  refine (grown_any wr r.cb r.g r.n r.L f t (h.ok r (List.mem_of_getElem? hj)) hf ht).mono ?_
  rintro e w' ⟨cb, g, rfl, hR, h1, h2, hb⟩
  exact ⟨cb, g, rfl, h.more (s := ⟨cb, g, _, _⟩) hR h1 h2 hb⟩

theorem Rs.rgrown {w wr : World} {ab : Nat} {x : List Value} {l : List Rg} (h : Rs w wr ab x l) {j : Nat} {r : Rg} (hj : l[j]? = some r) (f t : Int) (hf : I64 f) (ht : I64 t) :
    Calls Try.prog 12 #[.pointer (some ⟨r.cb, 0, none⟩), .int .i64 f, .int .i64 t] wr (GrewPost w ab x l r f t) := by
  refine (rgrown_any wr r.cb r.g r.n r.L f t (h.ok r (List.mem_of_getElem? hj)) hf ht).mono ?_
  rintro e w' ⟨cb, g, rfl, hR, h1, h2, hb⟩
  exact ⟨cb, g, rfl, h.more (s := ⟨cb, g, _, _⟩) hR h1 h2 hb⟩

theorem Rs0.moreNew {w wr w' : World} {l : List Rg} (h : Rs0 w wr l) {s : Rg} (hR : RingP w' s.cb s.g s.n s.L) (h1 : wr.heap.size ≤ s.cb) (h2 : wr.heap.size ≤ s.g) (hb : Below wr.heap.size wr w') : Rs0 w w' (s :: l) := by
  have hh := h.below hb
  have hsz := h.bel.size
  refine ⟨hh.bel, fun r hr => ?_, ?_, fun r hr => ?_⟩
  · rcases List.mem_cons.1 hr with rfl | hr
    · exact hR
    · exact hh.ok r hr
  · rw [List.map_cons, List.pairwise_cons]
    refine ⟨fun p hp => ?_, hh.ap⟩
    obtain ⟨r, hr, rfl⟩ := List.mem_map.1 hp
    have := (h.ok r hr).lt
    refine ⟨?_, ?_, ?_, ?_⟩ <;> simp only <;> omega
  · rcases List.mem_cons.1 hr with rfl | hr
    · omega
    · exact hh.lo r hr
end Go.Proofs.Ytcgapdkehmpmbaa
