/- A map of ints: an entry, then what it holds; the maps' plain form. -/
import Derived.Test.YtcfenakafcfjbaaBase
import Derived.WideKeyEntry
import Derived.Maps.OwnSet
import Derived.Maps.OwnOps
import Derived.Maps.RangeWalk
namespace Go.Proofs.Ytcfenakafcfjbaa
open Go.RowKit Go.ChangeShapes Go.WideShapes Go.ChangeAt Go.Deep Go.Maps Go.MapKept Go.ChangeMaps

theorem law3 : Keyed Try.prog 3 := int_keyed Try.underlying3
theorem zero3 (w : World) : (zeroValue 3).run Try.prog w = .ok (.int .i64 0) w := by kernel_rfl
def I64 (x : Int) : Prop := -9223372036854775808 ≤ x ∧ x ≤ 9223372036854775807
theorem wf_of {x : Int} (h : I64 x) : (Lit.int .i64 x).wf = true := WalkArith.wf_i64 (by unfold I64 at h; omega)
theorem of_wf {x : Int} (h : (Lit.int .i64 x).wf = true) : I64 x := bounds_i64 h
theorem key3 {x : Int} (h : I64 x) : keyOf Try.prog 3 (.int .i64 x) = some (.int .i64 x) := keyOf_int_mk Try.underlying3 (wf_of h)
theorem lit_ne {x y : Int} (h : x ≠ y) : (Lit.int .i64 x) ≠ .int .i64 y := fun e => h (by simpa using e)
theorem isKeyI (x : Int) : WideAt.IsKeyLit (.int .i64 x) := trivial
noncomputable abbrev PE : Value → Option (DataW Unit × List MemPlace) := plainElem (H := Unit) Try.prog 3
theorem pe3 {x : Int} (h : I64 x) : PE (.int .i64 x) = some (.lit (.int .i64 x), []) := plainElem_int Try.underlying3 (wf_of h)

theorem tight {H : Type} {P : Program} {k : TypeId} {R : Value → Option (DataW H × List MemPlace)} {w : World} {b n : Nat} {D : DataW H} (h : w.ownsMap P k R b n D) : w.ownsMap P k R b (Maps.size D) D := by
  obtain ⟨es, clock, hb, F, hs, rfl⟩ := h
  exact ⟨es, clock, hb, F, by simp [Maps.size, length_sorted], rfl⟩
theorem ownsMap_keep {H : Type} {P : Program} {k : TypeId} {R : Value → Option (DataW H × List MemPlace)} {w w' : World} {b n : Nat} {D : DataW H} (h : w.ownsMap P k R b n D) (hb : w'.heap[b]? = w.heap[b]?) : w'.ownsMap P k R b n D := by
  obtain ⟨es, clock, h1, h2⟩ := h
  exact ⟨es, clock, hb.trans h1, h2⟩

theorem set_twice (w : World) (b : Nat) (x y : Obj) : setBlock (setBlock w b x) b y = setBlock w b y := by
  simp [setBlock]
theorem set_at (w : World) (b : Nat) (x : Obj) (h : b < w.heap.size) : (setBlock w b x).heap[b]? = some x := by
  simp [setBlock, h]

/-- The entry first, then what it holds: as a store. -/
theorem entry_pair {H : Type} {P : Program} {w : World} {t k e b n : Nat} {R : Value → Option (DataW H × List MemPlace)} {D : DataW H} (K : Keyed P k) (ht : P.underlying t = some (.map k e)) {z : Value} (hz : ∀ u : World, (zeroValue e).run P u = .ok z u)
    (h : w.ownsMap P k R b n D) (hn : n < maxLen) {key : Value} {kl : Lit} (hkey : keyOf P k key = some kl) :
    ∃ (v0 : Value) (st : Nat) (w1 : World), (Instr.mapEntry t (.map (some b)) key).run P w = .ok (.tuple #[v0, .int .i64 (st : Int)]) w1 ∧
      ∀ (val : Value) (d : DataW H) (ps : List MemPlace), R val = some (d, ps) → ∃ w2, (Instr.entryStore t (.map (some b)) (.int .i64 (st : Int)) val).run P w1 = .ok () w2 ∧ w2.ownsMap P k R b (n + 1) (D.put kl d) ∧ w.grownBy w2 (some b) := by
  have hown := h
  obtain ⟨es, clock, hb, F, hs, rfl⟩ := h
  have hlt : b < w.heap.size := hown.lt
  obtain ⟨s1, s2, _⟩ := F.stamped
  suffices hh : ∃ (v0 : Value) (st : Nat) (es1 : Array MapEntry) (clock1 : Nat), (Instr.mapEntry t (.map (some b)) key).run P w = .ok (.tuple #[v0, .int .i64 (st : Int)]) (setBlock w b (.map es1 clock1)) ∧
      ∀ (w2 : World) (val : Value), w2.heap[b]? = some (.map es1 clock1) → ∃ es' clock', (Instr.entryStore t (.map (some b)) (.int .i64 (st : Int)) val).run P w2 = .ok () (setBlock w2 b (.map es' clock')) ∧
        (Instr.mapUpdate t (.map (some b)) key val).run P w = .ok () (setBlock w b (.map es' clock')) by
    obtain ⟨v0, st, es1, clock1, h1, h2⟩ := hh
    refine ⟨v0, st, _, h1, fun val d ps hv => ?_⟩
    obtain ⟨es', clock', h3, h4⟩ := h2 (setBlock w b (.map es1 clock1)) val (set_at _ _ _ hlt)
    rw [set_twice] at h3
    obtain ⟨w', hrun, r1, r2⟩ := hown.update K ht hn hkey hv
    rw [h4] at hrun
    cases hrun
    exact ⟨_, h3, r1, r2⟩
  rcases K.find w hkey es.toList (fun x hx => by obtain ⟨y, hy⟩ := F.reads x hx; exact ⟨_, WideElems.rd_key hy⟩) with ⟨h1, h2⟩ | ⟨j, e0, h1, h2, h3⟩
  · refine ⟨z, clock, es.push ⟨key, z, clock⟩, clock + 1, ?_, fun w2 val hw2 => ⟨es.push ⟨key, val, clock⟩, clock + 1, ?_, ?_⟩⟩
    · simp [Instr.mapEntry, run_underlying ht, MapKept.run_getObj_map hb, K.check w false hkey, h1, hz, MapKept.run_setObj_map _ hb, Result.andThen, setBlock, goInt]
    · have hidx : (es.push ⟨key, z, clock⟩).findIdx? (fun e => ((e.born : Nat) : Int) == ((clock : Nat) : Int)) = some es.size := by
        rw [WideElems.findIdx_arr]
        exact WideElems.findIdx_born (l := (es.push ⟨key, z, clock⟩).toList) (j := es.size) (e0 := ⟨key, z, clock⟩) (by
          simp only [Array.toList_push, List.map_append, List.map_cons, List.map_nil]
          refine List.nodup_append.2 ⟨s2, by simp, fun a ha c hc e1 => ?_⟩
          simp only [List.mem_singleton] at hc
          obtain ⟨x, hx, rfl⟩ := List.mem_map.1 ha
          have := s1 x hx
          omega) (by simp)
      have hmod : (es.push ⟨key, z, clock⟩).modify es.size (fun e => { e with val := val }) = es.push ⟨key, val, clock⟩ := by
        apply Array.ext'
        rw [Array.toList_modify, Array.toList_push, Array.toList_push, ← Array.length_toList, WideElems.modify_last]
      simp [Instr.entryStore, MapKept.run_getObj_map hw2, asInt, asIntOf, hidx, hmod, MapKept.run_setObj_map _ hw2, Result.andThen, setBlock]
    · simp [Instr.mapUpdate, run_underlying ht, MapKept.run_getObj_map hb, K.check w false hkey, h1, MapKept.run_setObj_map _ hb, Result.andThen, setBlock]
  · have hj : es[j]? = some e0 := by simpa using h2
    have hsame : es.modify j (fun e => { e with key := key }) = es := by
      apply Array.ext'
      rw [Array.toList_modify, ChangeMaps.modify_eq_set _ _ _ _ h2]
      have : ({ e0 with key := key } : MapEntry) = e0 := by rw [← h3]
      rw [this]
      exact WideElems.set_self _ _ _ h2
    refine ⟨e0.val, e0.born, es, clock, ?_, fun w2 val hw2 => ⟨es.modify j (fun e' => { e' with key := key, val := val }), clock, ?_, ?_⟩⟩
    · simp [Instr.mapEntry, run_underlying ht, MapKept.run_getObj_map hb, K.check w false hkey, h1, hj, h3, K.stays w hkey, hsame, MapKept.run_setObj_map _ hb, Result.andThen, setBlock, goInt]
    · have hidx : es.findIdx? (fun e => ((e.born : Nat) : Int) == ((e0.born : Nat) : Int)) = some j := by
        rw [WideElems.findIdx_arr]
        exact WideElems.findIdx_born s2 h2
      have hmod : es.modify j (fun e => { e with val := val }) = es.modify j (fun e' => { e' with key := key, val := val }) := by
        apply Array.ext'
        rw [Array.toList_modify, Array.toList_modify, ChangeMaps.modify_eq_set _ _ _ _ h2, ChangeMaps.modify_eq_set _ _ _ _ h2, ← h3]
      simp [Instr.entryStore, MapKept.run_getObj_map hw2, asInt, asIntOf, hidx, hmod, MapKept.run_setObj_map _ hw2, Result.andThen, setBlock]
    · simp [Instr.mapUpdate, run_underlying ht, MapKept.run_getObj_map hb, K.check w false hkey, h1, hj, h3, K.stays w hkey, MapKept.run_setObj_map _ hb, Result.andThen, setBlock]

/-- A map of ints in memory: what it has at each key; nil, or a block. -/
def MapI (w : World) (v : Value) (N : Nat) (F : Int → Option Int) : Prop :=
  (v = .map none ∧ ∀ x, I64 x → F x = none) ∨ ∃ b D, v = .map (some b) ∧ w.ownsMap Try.prog 3 PE b (Maps.size D) D ∧ Maps.size D ≤ N ∧
    ∀ x, I64 x → Maps.has D (.int .i64 x) = (F x).isSome ∧ D.atKey (.int .i64 x) (.lit (.int .i64 0)) = .lit (.int .i64 ((F x).getD 0))

theorem MapI.keep {w w' : World} {v : Value} {N : Nat} {F : Int → Option Int} (h : MapI w v N F) (hb : ∀ b, v = .map (some b) → w'.heap[b]? = w.heap[b]?) : MapI w' v N F := by
  rcases h with h | ⟨b, D, e, h1, h2⟩
  · exact .inl h
  · exact .inr ⟨b, D, e, ownsMap_keep h1 (hb b e), h2⟩
theorem MapI.lt {w : World} {b N : Nat} {F : Int → Option Int} (h : MapI w (.map (some b)) N F) : b < w.heap.size := by
  rcases h with ⟨e, _⟩ | ⟨b', D, e, h1, _⟩
  · cases e
  · cases e; exact h1.lt
theorem MapI.mono {w : World} {v : Value} {N N' : Nat} {F : Int → Option Int} (h : MapI w v N F) (hN : N ≤ N') : MapI w v N' F := by
  rcases h with h | ⟨b, D, e, h1, h2, h3⟩
  · exact .inl h
  · exact .inr ⟨b, D, e, h1, Nat.le_trans h2 hN, h3⟩
theorem MapI.nil (w : World) : MapI w (.map none) 0 (fun _ => none) := .inl ⟨rfl, fun _ _ => rfl⟩
/-- With another value at a key. -/
def upd (F : Int → Option Int) (x y : Int) : Int → Option Int := fun z => if z = x then some y else F z
/-- Without a key. -/
def rem (F : Int → Option Int) (x : Int) : Int → Option Int := fun z => if z = x then none else F z

theorem mapI_put {w : World} {b n N : Nat} {D : DataW Unit} {F : Int → Option Int} {x y : Int} (hT : Tidy D) (hz : Maps.size D ≤ N) (hF : ∀ z, I64 z → Maps.has D (.int .i64 z) = (F z).isSome ∧ D.atKey (.int .i64 z) (.lit (.int .i64 0)) = .lit (.int .i64 ((F z).getD 0)))
    (h : w.ownsMap Try.prog 3 PE b n (D.put (.int .i64 x) (.lit (.int .i64 y)))) : MapI w (.map (some b)) (N + 1) (upd F x y) := by
  refine .inr ⟨b, _, rfl, tight h, ?_, fun z hz' => ?_⟩
  · rw [size_put hT]
    split <;> omega
  · by_cases e : z = x
    · subst e
      rw [has_put_same hT.isMap (isKeyI _), atKey_put_same hT.isMap (isKeyI _)]
      simp [upd]
    · rw [has_put_other (lit_ne e), atKey_put_other (lit_ne e)]
      simp only [upd, if_neg e]
      exact hF z hz'
theorem mapI_del {w : World} {b n N : Nat} {D : DataW Unit} {F : Int → Option Int} {x : Int} (hT : Tidy D) (hz : Maps.size D ≤ N) (hF : ∀ z, I64 z → Maps.has D (.int .i64 z) = (F z).isSome ∧ D.atKey (.int .i64 z) (.lit (.int .i64 0)) = .lit (.int .i64 ((F z).getD 0)))
    (h : w.ownsMap Try.prog 3 PE b n (D.del (.int .i64 x))) : MapI w (.map (some b)) N (rem F x) := by
  refine .inr ⟨b, _, rfl, tight h, ?_, fun z hz' => ?_⟩
  · have := size_del hT (k := .int .i64 x)
    omega
  · by_cases e : z = x
    · subst e
      rw [has_del_same, atKey_del_same]
      simp [rem]
    · rw [has_del_other (lit_ne e), atKey_del_other (lit_ne e)]
      simp only [rem, if_neg e]
      exact hF z hz'
end Go.Proofs.Ytcfenakafcfjbaa
