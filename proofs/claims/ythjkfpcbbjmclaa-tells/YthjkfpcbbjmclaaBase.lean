/- General facts: how slices read, boxes, worlds. -/
import Derived.Test.YthjkfpcbbjmclaaRows
import Derived.WalkKit
import Derived.ProofKit
import Derived.OpenShut
import Derived.WalkLawsBesides
import Derived.WalkSpells
import Derived.Laws.CopyOwn
import Derived.Laws.BitsAllLaws
import Derived.Laws.AppendOwnNone
import Derived.Deep.RegionHeld3
import Derived.Deep.DrawnRows
import Derived.Deep.Grids
namespace Go.Proofs.Ythjkfpcbbjmclaa
open Go.RowKit Go.ChangeShapes Go.WideShapes Go.ChangeAt Go.Deep

theorem hide {p : Prop} (h : p) : Go.RowKit.Hid p := h

theorem unhide {p : Prop} (h : Go.RowKit.Hid p) : p := h

theorem ret_bool {a : Bool} (h : a = true) : Ending.returned (.bool a) = .returned (.bool true) := by rw [h]

theorem ret_int {k : IntKind} {a b : Int} (h : a = b) : Ending.returned (.int k a) = .returned (.int k b) := by rw [h]

def Reads (w : World) (a : Option Addr) (xs : List Value) : Prop := xs = [] ∨ ∃ b off, a = some ⟨b, off, none⟩ ∧ ∀ j u, xs[j]? = some u → w.cell? ⟨b, off + j, none⟩ = some u

theorem add_none (b off j : Nat) : (⟨b, off, none⟩ : Addr).add j = ⟨b, off + j, none⟩ := by
  unfold Addr.add; split <;> simp_all

theorem Reads.at {w : World} {a : Option Addr} {xs : List Value} (h : Reads w a xs) (h0 : 0 < xs.length) : ∃ ad, a = some ad ∧ ∀ j v, xs[j]? = some v → w.cell? (ad.add j) = some v := by
  rcases h with rfl | ⟨b, off, rfl, h⟩
  · simp at h0
  · exact ⟨_, rfl, fun j v hv => by rw [add_none]; exact h j v hv⟩

theorem cell_some_lt {w : World} {p : Addr} {u : Value} (h : w.cell? p = some u) : p.block < w.heap.size := by
  simp only [World.cell?] at h
  cases hq : w.heap[p.block]? with
  | none => simp [hq] at h
  | some o => exact (Array.getElem?_eq_some_iff.1 hq).1

theorem Reads.below {w w' : World} {a : Option Addr} {xs : List Value} (h : Reads w a xs) (hb : Below w.heap.size w w') : Reads w' a xs := by
  rcases h with rfl | ⟨b, off, rfl, h⟩
  · exact .inl rfl
  · exact .inr ⟨b, off, rfl, fun j u hu => by rw [hb.cell (cell_some_lt (h j u hu))]; exact h j u hu⟩

def iV (ns : List Int) : List Value := ns.map fun n => Value.int .i64 n

def In64 (ns : List Int) : Prop := ∀ n ∈ ns, -9223372036854775808 ≤ n ∧ n ≤ 9223372036854775807

theorem reads_new (w : World) (xs : List Value) (t : TypeId) : Reads (w.alloc (.cells xs.toArray t)) (some ⟨w.heap.size, 0, none⟩) xs := by
  refine .inr ⟨_, _, rfl, fun j u hu => ?_⟩
  rw [World.cell?_alloc_at _ _ _ _ rfl]
  simpa using hu

theorem grown_setCell (w : World) (c o : Nat) (v : Value) : w.grownBy (w.setCell ⟨c, o, none⟩ v) (some c) :=
  ⟨rfl, rfl, rfl, by simp [World.setCell], fun k _ hk => Below.heap_setCell _ _ _ _ (fun e => hk (by rw [e]))⟩

theorem grown_trans {a b c : World} {row : Option Nat} (h : a.grownBy b row) (k : b.grownBy c row) : a.grownBy c row :=
  ⟨k.os.trans h.os, k.tape.trans h.tape, k.output.trans h.output, Nat.le_trans h.size k.size, fun i hi hr => (k.block i (Nat.lt_of_lt_of_le hi h.size) hr).trans (h.block i hi hr)⟩

theorem grown_refl (w : World) (row : Option Nat) : w.grownBy w row := ⟨rfl, rfl, rfl, Nat.le_refl _, fun _ _ _ => rfl⟩

theorem Reads.drew {w : World} {a : Option Addr} {xs : List Value} (h : Reads w a xs) : Reads w.drew a xs := by
  rcases h with h | ⟨b, off, e, h⟩
  · exact .inl h
  · exact .inr ⟨b, off, e, fun j u hu => by simpa using h j u hu⟩

theorem below_undrew {B : Nat} {w w' : World} (h : Below B w.drew w') : Below B w w' := ⟨h.os, h.tape, h.output, h.size, h.block⟩

theorem takeD {P : Program} {md : Region.Mode} {ops : Array Oper} {Q : Exit → Act → World → Prop} {S : World → Prop} {i : Nat} {d : Option Tmp} {oi : Oper} {v : Value} {fuel : Nat} {listed : Array Bool} {a : Act} {w : World} (hi : ops[i]? = some oi) (hd : oi.dst = d)
    (hs : Region.noSelect ops = true) (hf : Region.free md ops listed i = true) (hr : (Region.ready md ops listed).contains i = true)
    (hQ : ∀ c a w, Q (.panic c) (a.put d v) w → Q (.panic c) a w) (hy : YieldsIf P ops S oi v a) (hS : S w)
    (h : wpAnyH P md ops Q S fuel (listed.setIfInBounds i true) (a.put d v) w) : wpAnyH P md ops Q S (fuel + 1) listed a w := by
  subst hd
  exact wpAnyH_take hi hs hf hr hQ hy hS h

theorem reads_plain {w : World} {x : Addr} {k : Nat} {u : Value} (h : w.cell? (x.add k) = some u) (h0 : ∃ u0, w.cell? (x.add 0) = some u0) : ∃ b off, x = ⟨b, off, none⟩ := by
  obtain ⟨b, off, spot⟩ := x
  obtain ⟨u0, h0⟩ := h0
  have hspot : spot = none := by simpa [Addr.add] using World.cell?_spot h0
  subst hspot
  exact ⟨b, off, rfl⟩

theorem arg_ints {H : Type} {enc : TypeId × Value → H} {W : World} {t e : TypeId} (ht : Try.prog.underlying t = some (.slice e)) (he : Try.prog.underlying e = some (.int .i64)) (hc : Try.prog.cellsOf e = 1)
    {a : Option Addr} {len cap : Nat} {d : DataW H} {p : List MemPlace} (h : DataW.Trod enc Try.prog W 0 (fun _ => true) true t (.slice a len cap) d p) :
    ∃ ns : List Int, ns.length = len ∧ In64 ns ∧ len ≤ cap ∧ (cap ≤ maxLen ∧ (a = none → len = 0 ∧ cap = 0)) ∧ Reads W a (iV ns) := by
  obtain ⟨fuel, hf⟩ := h
  rcases open_ints ht he hc hf with ⟨hcs, _⟩ | ⟨x, l, c, zs, hcs, _, hl, hm, hz, _, hcell, hwz⟩
  · simp [Value.cells] at hcs
    obtain ⟨rfl, rfl, rfl⟩ := hcs
    exact ⟨[], rfl, (fun x hx => by cases hx), Nat.le_refl _, ⟨by unfold maxLen; omega, fun _ => ⟨rfl, rfl⟩⟩, .inl rfl⟩
  · simp [Value.cells] at hcs
    obtain ⟨rfl, rfl, rfl⟩ := hcs
    have hzl : zs.length = cap := by simpa using hz
    refine ⟨zs.take len, by simp; omega, fun n hn => bounds_i64 (hwz n (List.mem_of_mem_take hn)), hl, ⟨hm, fun h => by cases h⟩, ?_⟩
    by_cases h0 : len = 0
    · exact .inl (by simp [iV, h0])
    · obtain ⟨b, off, rfl, hcb⟩ := ints_at hcell (by omega)
      refine .inr ⟨b, off, rfl, fun j u hu => ?_⟩
      have hj : j < len := by
        rcases Nat.lt_or_ge j len with h | h
        · exact h
        · rw [List.getElem?_eq_none (by simp [iV]; omega)] at hu; cases hu
      rw [hcb j (by omega)]
      have hjz : j < zs.length := by omega
      simp [iV, hj, hjz] at hu
      subst hu
      simp [List.getD, hjz]

theorem reads_next (w : World) (o : Obj) (xs : List Value) (t : TypeId) : Reads ((w.alloc o).alloc (.cells xs.toArray t)) (some ⟨w.heap.size + 1, 0, none⟩) xs := by
  have h := reads_new (w.alloc o) xs t
  have e : (w.alloc o).heap.size = w.heap.size + 1 := by simp
  rw [e] at h
  exact h

theorem reads_at {w : World} {a : Option Addr} {ns : List Int} {k : Nat} (h : Reads w a (iV ns)) (hk : k < ns.length) : ∃ b off, a = some ⟨b, off, none⟩ ∧ Hid (∀ j u, (iV ns)[j]? = some u → w.cell? ⟨b, off + j, none⟩ = some u) := by
  rcases h with h | ⟨b, off, e, h⟩
  · have : ns = [] := by simpa [iV] using h
    subst this; simp at hk
  · exact ⟨b, off, e, h⟩

theorem undrew {w w' : World} {r : Option Nat} (hg : w.drew.grownBy w' r) : w.grownBy w' r := ⟨hg.os, hg.tape, hg.output, hg.size, hg.block⟩

theorem undrew' {w w' : World} {row : Option Nat} (hb : Below w.drew.heap.size w.drew w') : w.grownBy w' row := ⟨hb.os, hb.tape, hb.output, hb.size, fun k hk _ => hb.block k hk⟩

theorem below_of {w w' : World} (hg : w.grownBy w' (Value.slice none 0 0).ownBlock) : Below w.heap.size w w' := (Below.refl _ _).grown hg (Nat.le_refl _) (fun k hk => by cases hk)

theorem keep_cell {w w' : World} {p : Addr} {u : Value} (h : w.cell? p = some u) (hb : Below w.heap.size w w') : w'.cell? p = some u := by
  rw [hb.cell (cell_some_lt h)]; exact h

theorem keep_frozen {w w' : World} {p : Addr} {u : Value} (h : w.cell? p = some u) (hb : Below w.heap.size w w') : w'.frozen? p = w.frozen? p := hb.frozen (cell_some_lt h)

def BoxL (w : World) (g : Nat) (xs : List Value) : Prop := g < w.heap.size ∧ ∀ j (h : j < xs.length), w.cell? ⟨g, j, none⟩ = some xs[j] ∧ w.frozen? ⟨g, j, none⟩ = false

theorem BoxL.grown {w w' : World} {g c : Nat} {xs : List Value} (h : BoxL w g xs) (hg : w.grownBy w' (some c)) (hc : g ≠ c) : BoxL w' g xs := by
  have hb := hg.block g h.1 (by simpa using hc)
  refine ⟨Nat.lt_of_lt_of_le h.1 hg.size, fun j hj => ⟨?_, ?_⟩⟩
  · rw [World.cell?_of_block (w := w) (a := ⟨g, j, none⟩) hb]; exact (h.2 j hj).1
  · rw [World.frozen?_of_block (w := w) (a := ⟨g, j, none⟩) hb]; exact (h.2 j hj).2

theorem BoxL.below {w w' : World} {g : Nat} {xs : List Value} (h : BoxL w g xs) (hb : Below w.heap.size w w') : BoxL w' g xs :=
  ⟨Nat.lt_of_lt_of_le h.1 hb.size, fun j hj => ⟨keep_cell (h.2 j hj).1 hb, by rw [keep_frozen (h.2 j hj).1 hb]; exact (h.2 j hj).2⟩⟩

theorem BoxL.put {w : World} {g : Nat} {xs : List Value} (h : BoxL w g xs) (i : Nat) (v : Value) : BoxL (w.setCell ⟨g, i, none⟩ v) g (xs.set i v) := by
  refine ⟨by simpa [World.setCell] using h.1, fun j hj => ⟨?_, ?_⟩⟩
  · rw [List.length_set] at hj
    by_cases e : i = j
    · subst e
      rw [List.getElem_set_self]
      exact World.cell?_setCell_same _ _ _ (h.2 i hj).1
    · rw [List.getElem_set_ne e, World.cell?_setCell_other (h := by simp)]
      exact (h.2 j hj).1
  · rw [List.length_set] at hj
    simpa using (h.2 j hj).2

theorem BoxL.new (w : World) (xs : List Value) (t : TypeId) : BoxL (w.alloc (.cells xs.toArray t)) w.heap.size xs := by
  refine ⟨by simp, fun j hj => ⟨?_, World.frozen?_alloc_at _ _ _ _ rfl⟩⟩
  rw [World.cell?_alloc_at _ _ _ _ rfl]
  simp [hj]

theorem below_new (w : World) (o : Obj) : Below w.heap.size w (w.alloc o) := (Below.refl _ _).alloc (Nat.le_refl _) o

theorem box2 (w : World) (L M : List Value) (t u : TypeId) : BoxL ((w.alloc (.cells L.toArray t)).alloc (.cells M.toArray u)) w.heap.size L ∧ BoxL ((w.alloc (.cells L.toArray t)).alloc (.cells M.toArray u)) (w.heap.size + 1) M ∧ Below w.heap.size w ((w.alloc (.cells L.toArray t)).alloc (.cells M.toArray u)) ∧ ((w.alloc (.cells L.toArray t)).alloc (.cells M.toArray u)).heap.size = w.heap.size + 2 := by
  have b1 := below_new w (.cells L.toArray t)
  have b2 := below_new (w.alloc (.cells L.toArray t)) (.cells M.toArray u)
  have e : (w.alloc (.cells L.toArray t)).heap.size = w.heap.size + 1 := by simp
  refine ⟨(BoxL.new w L t).below b2, ?_, b1.trans (b2.mono b1.size), by simp⟩
  have h := BoxL.new (w.alloc (.cells L.toArray t)) M u
  rw [e] at h
  exact h

theorem BoxL.c3 {w : World} {g : Nat} {x y z : Value} (h : BoxL w g [x, y, z]) : w.cell? ⟨g, 0, none⟩ = some x ∧ w.cell? ⟨g, 1, none⟩ = some y ∧ w.cell? ⟨g, 2, none⟩ = some z := ⟨(h.2 0 (by simp)).1, (h.2 1 (by simp)).1, (h.2 2 (by simp)).1⟩

theorem BoxL.f3 {w : World} {g : Nat} {x y z : Value} (h : BoxL w g [x, y, z]) : w.frozen? ⟨g, 0, none⟩ = false ∧ w.frozen? ⟨g, 1, none⟩ = false ∧ w.frozen? ⟨g, 2, none⟩ = false := ⟨(h.2 0 (by simp)).2, (h.2 1 (by simp)).2, (h.2 2 (by simp)).2⟩

theorem BoxL.keep {w w' : World} {g : Nat} {xs : List Value} (h : BoxL w g xs) (hs : w.heap.size ≤ w'.heap.size) (hb : w'.heap[g]? = w.heap[g]?) : BoxL w' g xs :=
  ⟨Nat.lt_of_lt_of_le h.1 hs, fun j hj => ⟨by rw [World.cell?_of_block (w := w) (a := ⟨g, j, none⟩) hb]; exact (h.2 j hj).1, by rw [World.frozen?_of_block (w := w) (a := ⟨g, j, none⟩) hb]; exact (h.2 j hj).2⟩⟩


theorem own_form {w : World} {B n : Nat} {v : Value} {zs : List Value} (ho : w.ownsRow B 3 1 v n zs) : ∃ a cap, v = .slice a n cap ∧ n ≤ cap ∧ (0 < n → ∃ g, a = some ⟨g, 0, none⟩ ∧ B ≤ g ∧ g < w.heap.size) := by
  have ho' := ho
  rcases ho.2 with ⟨rfl, rfl⟩ | ⟨g, cap, cur, rfl, hB, _, h1, _⟩
  · exact ⟨none, 0, rfl, Nat.le_refl _, fun h => by omega⟩
  · exact ⟨_, cap, rfl, h1, fun _ => ⟨g, rfl, hB, (ho'.lt g rfl).2⟩⟩

theorem own_below {w w' : World} {B n : Nat} {v : Value} {xs : List Value} (h : w.ownsRow B 3 1 v n xs) (hb : Below w.heap.size w w') : w'.ownsRow B 3 1 v n xs :=
  h.kept (row := none) ⟨hb.os, hb.tape, hb.output, hb.size, fun k hk _ => hb.block k hk⟩ (by cases v.ownBlock <;> simp)

theorem iV_length (l : List Int) : (iV l).length = l.length := by simp [iV]

theorem iV_one (xs : List Int) : ∀ v ∈ iV xs, v.oneCell' = true := by
  intro v hv
  simp only [iV, List.mem_map] at hv
  obtain ⟨x, _, rfl⟩ := hv
  rfl

theorem Try.info3 : (Try.prog.info? 3).map (fun i => (i.zero, i.size, i.bytes)) = some (some (.int .i64 0), 1, 8) := by kernel_rfl

theorem made_zeros (n : Nat) : (madeCells (Value.int IntKind.i64 0).cells (n * 1)).toList = iV (List.replicate n 0) := by
  simp [madeCells, iV, Value.cells, Nat.mod_one, List.map_const']

theorem below_drewN {B : Nat} {a w : World} (h : Below B a w) (n : Nat) : Below B a (w.drewN n) := h.trans ⟨rfl, rfl, rfl, Nat.le_refl _, fun _ _ => rfl⟩

end Go.Proofs.Ythjkfpcbbjmclaa
