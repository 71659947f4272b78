/- What a job means, plain: the tasks of an evaluation. -/
import Derived.Test.YtbpcibnomkfglaaGreatDoorResK
import Derived.Test.YtbpcibnomkfglaaGreatDoorKid
namespace Go.Proofs.YtbpcibnomkfglaaGreatDoor
open Go.RowKit Go.ChangeShapes Go.WideShapes Go.ChangeAt Go.Deep

/-- A task of an evaluation. -/
structure En where
  id : List UInt8
  fn : Nat
  args : List Int
  er : Int
  ev : Int
  steps : Nat
  kids : Nat
  awaits : List Int
/-- A task that goes on. -/
structure Dg where
  e : En
  s : PM
  res : List (Int × Int)
  ended : Bool
def PM.bare (s : PM) : PM := ⟨s.fn, s.pc, s.fu, s.sk, s.lo, s.kd, s.wt, 0, 0, 0, 0, [], 0, 0⟩
def Dg.small (x : Dg) : Prop := x.s.sk.length ≤ 10000 ∧ x.s.lo.length ≤ 10000 ∧ x.e.steps ≤ 1000000 ∧ x.e.kids ≤ 1000000 ∧ x.e.awaits.length ≤ 100000 ∧ x.res.length ≤ 100000 ∧ x.e.id.length ≤ 1000
instance (x : Dg) : Decidable x.small := by unfold Dg.small; infer_instance
abbrev DoF := List En → List UInt8 → Nat → List Int → Option (List En × Bool × Int × Int)
/-- What an event makes of a task, but for its state and its end; and where it stands then. -/
def evE (d : DoF) (E : List En) (x : Dg) (t : PM) : Option (List En × Bool × Dg × PM) :=
  if t.ek = 1 then
    (if kidOk x.e.id t.ei = true ∧ 0 ≤ t.ef then
      (match d E (kidL x.e.id t.ei) t.ef.toNat t.ar with
      | some (E', ov, r) => some (E', ov, ⟨{ x.e with steps := x.e.steps + t.es, kids := x.e.kids + 1 }, x.s, x.res ++ [r], x.ended⟩, t)
      | none => none)
    else none)
  else if t.ek = 2 then
    (if 0 ≤ t.ei ∧ t.pc ≤ 100000 ∧ t.sk.length ≤ 10000 ∧ t.lo.length ≤ 10000 ∧ t.wt = true then
      (match x.res[t.ei.toNat]? with
      | some (er, ev) =>
        (match resM t.bare er ev with
        | some q => some (E, false, ⟨{ x.e with steps := x.e.steps + t.es, awaits := x.e.awaits ++ [t.ei] }, x.s, x.res, x.ended⟩, finM q)
        | none => none)
      | none => none)
    else none)
  else some (E, false, ⟨{ x.e with steps := x.e.steps + t.es }, x.s, x.res, x.ended⟩, t)
/-- Its state, and whether it ended. -/
def Dg.fin (x : Dg) (t : PM) : Dg := ⟨if t.ek = 3 then { x.e with er := t.er, ev := t.ev } else x.e, t, x.res, if t.ek = 3 then true else x.ended⟩
/-- A task goes on to its next event. -/
def goE (d : DoF) (fs : List Fun) (jf : Int) (n : Nat) (E : List En) (x : Dg) : Option (List En × Bool × Dg) :=
  if x.small then
    (match runW fs jf (x.e.id.length : Int) jf n x.s.bare with
    | some q => if (finM q).es ≤ 1000000 then (match evE d E x (finM q) with | some (E', ov, y, t) => some (E', ov, y.fin t) | none => none) else none
    | none => none)
  else none
def loopE (g : List En → Dg → Option (List En × Bool × Dg)) : Nat → List En → Bool → Dg → Option (List En × Bool × Dg)
  | 0, E, ov, x => if x.ended = false ∧ ov = false then none else some (E, ov, x)
  | k + 1, E, ov, x => if x.ended = false ∧ ov = false then (match g E x with | some (E', ov', x') => loopE g k E' ov' x' | none => none) else some (E, ov, x)
/-- A task at its beginning. -/
def begE (id : List UInt8) (fn : Nat) (args : List Int) (n : Nat) : Dg := ⟨⟨id, fn, args, 0, 0, 0, 0, []⟩, ⟨fn, 0, 0, [], args ++ List.replicate (n - args.length) 0, 0, false, 0, 0, 0, 0, [], 0, 0⟩, [], false⟩
/-- A task and all that come of it; none: it is not told. -/
def doE (fs : List Fun) (jf tasks : Int) (n k : Nat) : Nat → DoF
  | 0, _, _, _, _ => none
  | h + 1, E, id, fn, args =>
    if (E.length : Int) = tasks then some (E, true, 0, 0)
    else if E.length ≤ 10000 then
      (match fs[fn]? with
      | some f => if f.args = (args.length : Int) ∧ f.args ≤ f.locals ∧ f.locals ≤ 10000 then
          (match loopE (goE (doE fs jf tasks n k h) fs jf n) k (E ++ [(begE id fn args f.locals.toNat).e]) false (begE id fn args f.locals.toNat) with
          | some (E', ov, x) => some (E'.set E.length x.e, ov, x.e.er, x.e.ev)
          | none => none)
        else none
      | none => none)
    else none
end Go.Proofs.YtbpcibnomkfglaaGreatDoor
/- An evaluation in memory. -/

namespace Go.Proofs.YtbpcibnomkfglaaGreatDoor
open Go.RowKit Go.ChangeShapes Go.WideShapes Go.ChangeAt Go.Deep

/-- A row of numbers of one's own, from B on. -/
abbrev OI (B : Nat) (w : World) (v : Value) (xs : List Int) : Prop := w.ownsRow B 3 1 v xs.length (iV xs)
theorem own_stay {B e k n : Nat} {w w' : World} {v : Value} {xs : List Value} (h : w.ownsRow B e k v n xs) (hk : ∀ g cur, v.ownBlock = some g → w.heap[g]? = some (.cells cur e (0, 0)) → w'.heap[g]? = w.heap[g]?) : w'.ownsRow B e k v n xs := by
  refine ⟨h.1, ?_⟩
  rcases h.2 with q | ⟨g, cap, cur, rfl, q2, q3, q4⟩
  · exact .inl q
  · exact .inr ⟨g, cap, cur, rfl, q2, (hk g cur rfl q3).trans q3, q4⟩
theorem own_mono {B B' e k n : Nat} {w : World} {v : Value} {xs : List Value} (h : w.ownsRow B e k v n xs) (hB : B' ≤ B) : w.ownsRow B' e k v n xs := by
  refine ⟨h.1, ?_⟩
  rcases h.2 with q | ⟨g, cap, cur, q1, q2, q3⟩
  · exact .inl q
  · exact .inr ⟨g, cap, cur, q1, Nat.le_trans hB q2, q3⟩
/-- What stays: below B all; below X all but evaluations and entries. -/
structure Kp (B X : Nat) (w w' : World) : Prop where
  below : Below B w w'
  far : ∀ k c t, k < X → w.heap[k]? = some (.cells c t (0, 0)) → t ≠ 53 → t ≠ 37 → w'.heap[k]? = w.heap[k]?
theorem Kp.refl (B X : Nat) (w : World) : Kp B X w w := ⟨Below.refl _ _, fun _ _ _ _ _ _ _ => rfl⟩
theorem Kp.size {B X : Nat} {w w' : World} (h : Kp B X w w') : w.heap.size ≤ w'.heap.size := h.below.size
theorem Kp.trans {B X Y : Nat} {w w' w'' : World} (h : Kp B X w w') (h' : Kp B Y w' w'') (hX : X ≤ Y) : Kp B X w w'' :=
  ⟨h.below.trans h'.below, fun k c t hk hc h1 h2 => by
    have e := h.far k c t hk hc h1 h2
    rw [h'.far k c t (by omega) (e.trans hc) h1 h2, e]⟩
theorem Kp.of {B X : Nat} {w w' : World} (h : Below X w w') (hB : B ≤ X) : Kp B X w w' := ⟨h.mono hB, fun k _ _ hk _ _ _ => h.block k hk⟩
theorem Kp.mono {B X X' : Nat} {w w' : World} (h : Kp B X w w') (hX : X' ≤ X) : Kp B X' w w' := ⟨h.below, fun k c t hk => h.far k c t (by omega)⟩
theorem own_kp {B B' X e k n : Nat} {w w' : World} {v : Value} {xs : List Value} (h : w.ownsRow B e k v n xs) (hk : Kp B' X w w') (hX : w.heap.size ≤ X) (h1 : e ≠ 53) (h2 : e ≠ 37) : w'.ownsRow B e k v n xs := by
  refine ⟨h.1, ?_⟩
  rcases h.2 with q | ⟨g, cap, cur, q1, q2, q3, q4⟩
  · exact .inl q
  · exact .inr ⟨g, cap, cur, q1, q2, (hk.far g cur e (by have := lt_row q3; omega) q3 h1 h2).trans q3, q4⟩
/-- A row, some of it put anew. -/
def setMany : List Value → Nat → List Value → List Value
  | l, _, [] => l
  | l, o, v :: r => setMany (l.set o v) (o + 1) r
theorem setMany_len : ∀ (vs : List Value) (l : List Value) (o : Nat), (setMany l o vs).length = l.length
  | [], _, _ => rfl
  | v :: r, l, o => by rw [setMany, setMany_len r]; simp
theorem setCells_many {b : Nat} {t : TypeId} : ∀ (vs : List Value) (o : Nat) (w : World) (l : List Value), w.heap[b]? = some (.cells l.toArray t (0, 0)) → (w.setCells b o vs).heap[b]? = some (.cells (setMany l o vs).toArray t (0, 0))
  | [], _, _, _, h => h
  | v :: r, o, w, l, h => by
    unfold World.setCells
    rw [setMany]
    refine setCells_many r (o + 1) (w.setCell ⟨b, o, none⟩ v) (l.set o v) ?_
    rw [heap_setCell_same w b o _ t v h]
    simp
theorem own_many {B e k n cap g : Nat} : ∀ (vs : List Value) (o : Nat) (w : World) (xs : List Value), w.ownsRow B e k (.slice (some ⟨g, 0, none⟩) n cap) n xs → (w.setCells g o vs).ownsRow B e k (.slice (some ⟨g, 0, none⟩) n cap) n (setMany xs o vs)
  | [], _, _, _, h => h
  | v :: r, o, w, xs, h => by
    unfold World.setCells
    rw [setMany]
    exact own_many r (o + 1) _ _ (h.stored o v).1
theorem setMany_app : ∀ (vs a b : List Value), setMany (a ++ b) a.length vs = a ++ setMany b 0 vs
  | [], _, _ => rfl
  | v :: r, a, [] => by
    rw [setMany, setMany]
    have e1 : (a ++ []).set a.length v = a ++ [] := List.set_eq_of_length_le (by simp)
    rw [e1]
    have : ∀ (r : List Value) (l : List Value) (o : Nat), l.length ≤ o → setMany l o r = l := by
      intro r
      induction r with
      | nil => intros; rfl
      | cons x r ih => intro l o h; rw [setMany, List.set_eq_of_length_le h]; exact ih l (o + 1) (by omega)
    rw [this r (a ++ []) (a.length + 1) (by simp), this r ([].set 0 v) 1 (by simp)]
    simp
  | v :: r, a, c :: b => by
    rw [setMany, setMany]
    have := setMany_app r (a ++ [v]) b
    simp only [List.length_append, List.length_cons, List.length_nil, Nat.zero_add, List.append_assoc, List.singleton_append] at this
    rw [List.set_append_right _ _ (Nat.le_refl _), Nat.sub_self, List.set_cons_zero, this]
    have h2 := setMany_app r [v] b
    simp only [List.length_cons, List.length_nil, Nat.zero_add, List.singleton_append] at h2
    rw [show (0 : Nat) + 1 = 1 from rfl, h2]
abbrev ET := En × Value × Value
def En.row (e : En) (a aw : Value) : List Value := [.string (bs e.id), .int .i64 (e.fn : Int), a, .int .i64 e.er, .int .i64 e.ev, .int .i64 (e.steps : Int), .int .i64 (e.kids : Int), aw]
def rowT (t : ET) : List Value := t.1.row t.2.1 t.2.2
def rowsE (L : List ET) : List Value := L.flatMap rowT
theorem rowsE_len (L : List ET) : (rowsE L).length = L.length * 8 := by
  induction L with
  | nil => rfl
  | cons t L ih =>
    simp only [rowsE, List.flatMap_cons, List.length_append] at ih ⊢
    rw [ih]
    simp [rowT, En.row]
    omega
theorem rowsE_app (L M : List ET) : rowsE (L ++ M) = rowsE L ++ rowsE M := by simp [rowsE]
theorem rowsE_at : ∀ (L : List ET) (i k : Nat) (t : ET) (u : Value), L[i]? = some t → (rowT t)[k]? = some u → (rowsE L)[i * 8 + k]? = some u
  | [], _, _, _, _, h, _ => by cases h
  | t :: L, 0, k, t', u, h, hu => by
    simp at h; subst h
    have hk : k < (rowT t).length := (List.getElem?_eq_some_iff.1 hu).1
    rw [show rowsE (t :: L) = rowT t ++ rowsE L from rfl, Nat.zero_mul, Nat.zero_add, List.getElem?_append_left hk]
    exact hu
  | t :: L, i + 1, k, t', u, h, hu => by
    have := rowsE_at L i k t' u (by simpa using h) hu
    rw [show rowsE (t :: L) = rowT t ++ rowsE L from rfl, List.getElem?_append_right (by simp [rowT, En.row]; omega)]
    rw [show (i + 1) * 8 + k - (rowT t).length = i * 8 + k by simp [rowT, En.row]; omega]
    exact this
theorem rowsE_set : ∀ (L M : List ET) (t t' : ET), setMany (rowsE (L ++ t :: M)) (L.length * 8) (rowT t') = rowsE (L ++ t' :: M) := by
  intro L M t t'
  rw [rowsE_app, rowsE_app, ← rowsE_len, setMany_app]
  rfl
/-- An entry's rows. -/
structure EnR (B : Nat) (w : World) (t : ET) : Prop where
  args : OI B w t.2.1 t.1.args
  aws : OI B w t.2.2 t.1.awaits
def Ents (B : Nat) (w : World) (L : List ET) : Prop := ∀ t ∈ L, EnR B w t
theorem Ents.kp {B B' X : Nat} {w w' : World} {L : List ET} (h : Ents B w L) (hk : Kp B' X w w') (hX : w.heap.size ≤ X) : Ents B w' L := fun t ht => ⟨own_kp (h t ht).args hk hX (by decide) (by decide), own_kp (h t ht).aws hk hX (by decide) (by decide)⟩
theorem Ents.mono {B B' : Nat} {w : World} {L : List ET} (h : Ents B w L) (hB : B' ≤ B) : Ents B' w L := fun t ht => ⟨own_mono (h t ht).args hB, own_mono (h t ht).aws hB⟩
def evRow (j : JV) (ev : Value) (ov : Bool) : List Value := [.slice j.fa j.nf j.fc, .int .i64 j.main, .slice j.aa j.na j.ac, .int .i64 j.fuel, .int .i64 j.tasks, ev, .bool ov]
/-- The evaluation. -/
structure EvM (B : Nat) (w : World) (v : Nat) (j : JV) (L : List ET) (ev : Value) (ov : Bool) : Prop where
  at_ : w.heap[v]? = some (.cells (evRow j ev ov).toArray 53 (0, 0))
  bv : B ≤ v
  own : w.ownsRow B 37 8 ev L.length (rowsE L)
theorem EvM.cell {B : Nat} {w : World} {v : Nat} {j : JV} {L : List ET} {ev : Value} {ov : Bool} (h : EvM B w v j L ev ov) (i : Nat) (u : Value) (hu : (evRow j ev ov)[i]? = some u) : w.cell? ⟨v, i, none⟩ = some u := cell_row h.at_ hu
theorem EvM.froz {B : Nat} {w : World} {v : Nat} {j : JV} {L : List ET} {ev : Value} {ov : Bool} (h : EvM B w v j L ev ov) (i : Nat) : w.frozen? ⟨v, i, none⟩ = false := by simp [World.frozen?, h.at_]
theorem EvM.lt {B : Nat} {w : World} {v : Nat} {j : JV} {L : List ET} {ev : Value} {ov : Bool} (h : EvM B w v j L ev ov) : v < w.heap.size := lt_row h.at_
theorem EvM.below {B : Nat} {w w' : World} {v : Nat} {j : JV} {L : List ET} {ev : Value} {ov : Bool} (h : EvM B w v j L ev ov) (hb : Below w.heap.size w w') : EvM B w' v j L ev ov :=
  ⟨(hb.block v h.lt).trans h.at_, h.bv, own_stay h.own fun g _ _ hg => hb.block g (lt_row hg)⟩
/-- What stays though other blocks are put. -/
theorem EvM.stay {B : Nat} {w w' : World} {v : Nat} {j : JV} {L : List ET} {ev : Value} {ov : Bool} (h : EvM B w v j L ev ov) (hk : ∀ (g : Nat) (c : Array Value) (t : TypeId), (t = 53 ∨ t = 37) → w.heap[g]? = some (Obj.cells c t (0, 0)) → w'.heap[g]? = w.heap[g]?) : EvM B w' v j L ev ov :=
  ⟨(hk v _ _ (.inl rfl) h.at_).trans h.at_, h.bv, own_stay h.own fun g c _ hg => hk g c _ (.inr rfl) hg⟩
def rowsR (R : List (Int × Int)) : List Value := R.flatMap fun r => [.int .i64 r.1, .int .i64 r.2]
theorem rowsR_len (R : List (Int × Int)) : (rowsR R).length = R.length * 2 := by
  induction R with
  | nil => rfl
  | cons t L ih =>
    simp only [rowsR, List.flatMap_cons, List.length_append] at ih ⊢
    rw [ih]
    simp
    omega
theorem rowsR_app (L M : List (Int × Int)) : rowsR (L ++ M) = rowsR L ++ rowsR M := by simp [rowsR]
theorem rowsR_at : ∀ (L : List (Int × Int)) (i : Nat) (a b : Int), L[i]? = some (a, b) → (rowsR L)[i * 2]? = some (.int .i64 a) ∧ (rowsR L)[i * 2 + 1]? = some (.int .i64 b)
  | [], _, _, _, h => by cases h
  | t :: L, 0, a, b, h => by
    simp at h; subst h
    exact ⟨rfl, rfl⟩
  | t :: L, i + 1, a, b, h => by
    have := rowsR_at L i a b (by simpa using h)
    rw [show rowsR (t :: L) = .int .i64 t.1 :: .int .i64 t.2 :: rowsR L from rfl, show (i + 1) * 2 = i * 2 + 1 + 1 by omega]
    simpa using this
def stRow (s : PM) (sv lv : Value) : List Value := [.int .i64 (s.fn : Int), .int .i64 (s.pc : Int), .int .i64 (s.fu : Int), sv, lv, .int .i64 s.kd, .bool s.wt]
def dgRow (d : Dg) (a aw sv lv rv : Value) : List Value := d.e.row a aw ++ stRow d.s sv lv ++ [rv, .bool d.ended]
/-- A task that goes on, in memory of its own from X on. -/
structure DgM (X : Nat) (w : World) (x : Nat) (d : Dg) (a aw sv lv rv : Value) : Prop where
  at_ : w.heap[x]? = some (.cells (dgRow d a aw sv lv rv).toArray 73 (0, 0))
  bx : X ≤ x
  args : OI X w a d.e.args
  aws : OI X w aw d.e.awaits
  st : OI X w sv d.s.sk.reverse
  lo : OI X w lv d.s.lo
  res : w.ownsRow X 34 2 rv d.res.length (rowsR d.res)
  na : ∀ g, aw.ownBlock = some g → a.ownBlock ≠ some g
theorem DgM.cell {X : Nat} {w : World} {x : Nat} {d : Dg} {a aw sv lv rv : Value} (h : DgM X w x d a aw sv lv rv) (i : Nat) (u : Value) (hu : (dgRow d a aw sv lv rv)[i]? = some u) : w.cell? ⟨x, i, none⟩ = some u := cell_row h.at_ hu
theorem DgM.froz {X : Nat} {w : World} {x : Nat} {d : Dg} {a aw sv lv rv : Value} (h : DgM X w x d a aw sv lv rv) (i : Nat) : w.frozen? ⟨x, i, none⟩ = false := by simp [World.frozen?, h.at_]
theorem DgM.lt {X : Nat} {w : World} {x : Nat} {d : Dg} {a aw sv lv rv : Value} (h : DgM X w x d a aw sv lv rv) : x < w.heap.size := lt_row h.at_
theorem DgM.kp {X B Y : Nat} {w w' : World} {x : Nat} {d : Dg} {a aw sv lv rv : Value} (h : DgM X w x d a aw sv lv rv) (hk : Kp B Y w w') (hY : w.heap.size ≤ Y) : DgM X w' x d a aw sv lv rv :=
  ⟨(hk.far x _ _ (by have := h.lt; omega) h.at_ (by decide) (by decide)).trans h.at_, h.bx, own_kp h.args hk hY (by decide) (by decide), own_kp h.aws hk hY (by decide) (by decide), own_kp h.st hk hY (by decide) (by decide), own_kp h.lo hk hY (by decide) (by decide), own_kp h.res hk hY (by decide) (by decide), h.na⟩
/-- A row lies apart from all rows of these entries. -/
def Ap (aw : Value) (N : List ET) : Prop := ∀ t ∈ N, ∀ g, aw.ownBlock = some g → t.2.1.ownBlock ≠ some g ∧ t.2.2.ownBlock ≠ some g
/-- What 'do' leaves. -/
def DoPost (B v : Nat) (j : JV) (L : List ET) (q : List En × Bool × Int × Int) (w : World) (e : Ending) (w' : World) : Prop :=
  e = .returned (.agg #[.int .i64 q.2.2.1, .int .i64 q.2.2.2]) ∧ ∃ N ev', (L ++ N).map (·.1) = q.1 ∧ EvM B w' v j (L ++ N) ev' q.2.1 ∧ Ents w.heap.size w' N ∧ Kp B w.heap.size w w'
/-- 'do' does what D says. -/
def DoOk (B v : Nat) (w0 : World) (j : JV) (D : DoF) : Prop :=
  ∀ (w : World) (L : List ET) (ev : Value) (id : List UInt8) (fn : Nat) (xs : List Int) (aa : Option Addr) (na ac : Nat) (q : List En × Bool × Int × Int), Below B w0 w → EvM B w v j L ev false → Ents B w L → Reads w aa (iV xs) → xs.length = na → (aa = none → xs.length = 0 ∧ ac = 0) → id.length ≤ 12 → D (L.map (·.1)) id fn xs = some q →
    Calls Tryz.prog 17 #[.pointer (some ⟨v, 0, none⟩), .string (bs id), .int .i64 (fn : Int), .slice aa na ac] w (DoPost B v j L q w)
/-- What 'goOn' leaves. -/
def GoPost (B X v x : Nat) (j : JV) (L0 N : List ET) (a : Value) (q : List En × Bool × Dg) (w : World) (e : Ending) (w' : World) : Prop :=
  e = .returned (.tuple #[]) ∧ ∃ N' ev' aw' sv' lv' rv', (L0 ++ (N ++ N')).map (·.1) = q.1 ∧ EvM B w' v j (L0 ++ (N ++ N')) ev' q.2.1 ∧ Ents X w' (N ++ N') ∧ Ap aw' (N ++ N') ∧ DgM X w' x q.2.2 a aw' sv' lv' rv' ∧ Kp B X w w'
/-- 'append', of one more: where the row is then. -/
theorem append_one {t e : TypeId} {size bytes : Nat} {z : Value} (hu : Tryz.prog.underlying t = some (.slice e)) (hinfo : (Tryz.prog.info? e).map (fun i => (i.zero, i.size, i.bytes)) = some (some z, size, bytes)) (hzs : z.cells.size = size) (hsz : 0 < size) (hby : bytes ≤ 1000) (w : World) (B : Nat) (v : Value) (n : Nat) (xs ys : List Value) (b : Nat) (hown : w.ownsRow B e size v n xs) (hl : ys.length = size) (hr : ∀ j u, ys[j]? = some u → w.cell? ⟨b, j, none⟩ = some u) (h1 : ∀ u ∈ ys, u.oneCell' = true) (hb : n ≤ 1000000) (hB : B ≤ w.heap.size) :
    ∃ a cap w', (Builtin.append_ #[t, t] t #[v, .slice (some ⟨b, 0, none⟩) 1 1]).run Tryz.prog w = .ok (.slice a (n + 1) cap) w' ∧ w'.ownsRow B e size (.slice a (n + 1) cap) (n + 1) (xs ++ ys) ∧ w.grownBy w' v.ownBlock ∧ ((Value.slice a (n + 1) cap).ownBlock = v.ownBlock ∨ ∀ g, (Value.slice a (n + 1) cap).ownBlock = some g → w.heap.size ≤ g) := by
  obtain ⟨i0, hi, hz0, hz1, hz2⟩ := info_parts hinfo
  have hcells : ∀ j u, ys[j]? = some u → w.cell? ((⟨b, 0, none⟩ : Addr).add j) = some u := fun j u hu => by
    rw [add_none, Nat.zero_add]; exact hr j u hu
  have hbytes : (n + 1) * bytes ≤ 140737488355328 := by
    have := Nat.mul_le_mul (show n + 1 ≤ 1000001 by omega) hby
    omega
  have form : ∀ {W : World} {b : Nat} {v' : Value} {zs : List Value}, W.ownsRow b e size v' (n + 1) zs → ∃ a cap, v' = .slice a (n + 1) cap := fun h => by
    rcases h.2 with ⟨_, q⟩ | ⟨g, cap, _, q, _⟩
    · omega
    · exact ⟨_, cap, q⟩
  rcases hown.2 with ⟨rfl, h0⟩ | ⟨g, cap, cur, rfl, q1, q2, q3, q4, q5, q6⟩
  · subst h0
    obtain ⟨v', w', r1, r2, r3, _⟩ := run_append_own (P := Tryz.prog) w w.heap.size t t e i0 z size bytes hu hi hz0 hz1 hz2 hzs hsz (.slice none 0 0) 0 xs (by
      have : xs = [] := List.eq_nil_of_length_eq_zero (by have := hown.1; simpa using this)
      subst this
      exact World.ownsRow_nil w _ e size) ⟨b, 0, none⟩ 1 1 ys (by omega) hcells h1 (by unfold maxLen; omega) hbytes (Nat.le_refl _)
    obtain ⟨a, cap, rfl⟩ := form r2
    exact ⟨a, cap, w', r1, own_mono r2 hB, r3, .inr (fun g hg => (r2.lt g hg).1)⟩
  · by_cases hroom : n + 1 ≤ cap
    · obtain ⟨w', r1, r2, r3⟩ := run_append_own_spare (P := Tryz.prog) w B t t e i0 size hu hi hz1 g n cap xs hown ⟨b, 0, none⟩ 1 1 ys (by omega) hcells h1 hroom
      exact ⟨_, _, w', r1, r2, r3, .inl rfl⟩
    · obtain ⟨v', w', r1, r2, r3⟩ := run_append_arg_grows (P := Tryz.prog) w t t e i0 z size bytes hu hi hz0 hz1 hz2 hzs hsz ⟨g, 0, none⟩ n cap xs (by have := hown.1; omega) (fun j u hu => hown.cells (g := g) rfl j u hu) ⟨b, 0, none⟩ 1 1 ys (by omega) hcells (by omega) (by unfold maxLen; omega) hbytes
      obtain ⟨a, cap', rfl⟩ := form r2
      exact ⟨a, cap', w', r1, own_mono r2 hB, ⟨r3.os, r3.tape, r3.output, r3.size, fun k hk _ => r3.block k hk (by simp)⟩, .inr (fun g hg => (r2.lt g hg).1)⟩
end Go.Proofs.YtbpcibnomkfglaaGreatDoor
/- Run and Resume, by rows of their own. -/

namespace Go.Proofs.YtbpcibnomkfglaaGreatDoor
open Go.RowKit Go.ChangeShapes Go.WideShapes Go.ChangeAt Go.Deep

/-- What Run answers: a state and an event, in rows of their own. -/
def RunR (w : World) (q : PM) (e : Ending) (w' : World) : Prop := ∃ sa sc la lc aa ac, e = .returned (.tuple #[.agg #[.int .i64 (q.fn : Int), .int .i64 (q.pc : Int), .int .i64 (q.fu : Int), .slice sa q.sk.length sc, .slice la q.lo.length lc, .int .i64 q.kd, .bool q.wt], .agg #[.int .i64 q.ek, .int .i64 q.ef, .int .i64 q.ei, .int .i64 (q.es : Int), .slice aa q.ar.length ac, .int .i64 q.er, .int .i64 q.ev]]) ∧
  OI w.heap.size w' (.slice sa q.sk.length sc) q.sk.reverse ∧ OI w.heap.size w' (.slice la q.lo.length lc) q.lo ∧ OI w.heap.size w' (.slice aa q.ar.length ac) q.ar ∧ Below w.heap.size w w'
theorem RunR.of {j : JV} {w w' : World} {q : PM} {e : Ending} (h : RunPost j w q e w') : RunR w q e w' := by
  obtain ⟨B, m, sv, lv, av, rfl, hBn, hM, hB⟩ := h
  obtain ⟨sa, sc, e1, _, _, _, _⟩ := own_formI hM.own
  obtain ⟨la, lc, e2, _, _, _, _⟩ := own_formI hM.loc
  obtain ⟨aa, ac, e3, _, _, _, _⟩ := own_formI hM.arg
  have o1 := own_monoI hM.own hBn
  have o2 := own_monoI hM.loc hBn
  have o3 := own_monoI hM.arg hBn
  simp only [PM.mc, List.length_reverse] at e1 e2 e3
  simp only [PM.mc] at o1 o2 o3
  subst e1 e2 e3
  exact ⟨sa, sc, la, lc, aa, ac, rfl, o1, o2, o3, hB⟩
theorem run_R (j : JV) (cs : List Value) (fs : List Fun) (args : List Int) (s : PM) (deep steps : Int) (B : Nat) (sv lv : Value) (q : PM × Option (Int × Int)) (n : Nat) (w : World) (hJ : JobR w j cs fs args) (hE : Env w) (hs : OI B w sv s.sk.reverse) (hl : OI B w lv s.lo) (h1 : s.sk.length ≤ 10000) (h2 : s.lo.length ≤ 10000) (hR : runW fs j.fuel deep steps n s.bare = some q) :
    Calls Tryz.prog 38 #[.agg #[.slice j.fa j.nf j.fc, .int .i64 j.main, .slice j.aa j.na j.ac, .int .i64 j.fuel, .int .i64 j.tasks], .agg #[.int .i64 (s.fn : Int), .int .i64 (s.pc : Int), .int .i64 (s.fu : Int), sv, lv, .int .i64 s.kd, .bool s.wt], .int .i64 deep, .int .i64 steps] w (RunR w (finM q)) := by
  obtain ⟨sa, sc, rfl, _, n1, r1, _⟩ := own_formI hs
  obtain ⟨la, lc, rfl, _, n2, r2, _⟩ := own_formI hl
  refine (run_K j cs fs args s.fn s.pc s.fu s.kd deep steps s.wt sa la sc lc s.sk.reverse s.lo q n w hJ hE r1 r2 n1 n2 (by simp; omega) (by omega) (by simpa using h1) (by simpa [PM.bare] using hR)).mono ?_
  intro e w' h
  exact RunR.of h
theorem res_R (j : JV) (cs : List Value) (fs : List Fun) (args : List Int) (s : PM) (er ev : Int) (B : Nat) (sv lv : Value) (q : PM × Option (Int × Int)) (w : World) (hJ : JobR w j cs fs args) (hE : Env w) (hs : OI B w sv s.sk.reverse) (hl : OI B w lv s.lo) (h1 : s.sk.length ≤ 10000) (h2 : s.lo.length ≤ 10000) (hp : s.pc ≤ 100000) (hw : s.wt = true) (hR : resM s.bare er ev = some q) :
    Calls Tryz.prog 40 #[.agg #[.slice j.fa j.nf j.fc, .int .i64 j.main, .slice j.aa j.na j.ac, .int .i64 j.fuel, .int .i64 j.tasks], .agg #[.int .i64 (s.fn : Int), .int .i64 (s.pc : Int), .int .i64 (s.fu : Int), sv, lv, .int .i64 s.kd, .bool s.wt], .agg #[.int .i64 er, .int .i64 ev]] w (RunR w (finM q)) := by
  obtain ⟨sa, sc, rfl, _, n1, r1, _⟩ := own_formI hs
  obtain ⟨la, lc, rfl, _, n2, r2, _⟩ := own_formI hl
  rw [hw]
  refine (res_K j cs fs args s.fn s.pc s.fu s.kd er ev sa la sc lc s.sk.reverse s.lo q w hJ hE r1 r2 n1 n2 (by simp; omega) (by omega) (by simpa using h1) (by omega) (by simpa [PM.bare, hw] using hR)).mono ?_
  intro e w' h
  exact RunR.of h
def eRow (t : PM) (av : Value) : List Value := [.int .i64 t.ek, .int .i64 t.ef, .int .i64 t.ei, .int .i64 (t.es : Int), av, .int .i64 t.er, .int .i64 t.ev]
/-- A state and an event in their boxes. -/
structure SE (Y : Nat) (w : World) (sb eb : Nat) (t : PM) (sv lv av : Value) : Prop where
  s : w.heap[sb]? = some (.cells (stRow t sv lv).toArray 70 (0, 0))
  e : w.heap[eb]? = some (.cells (eRow t av).toArray 100 (0, 0))
  bs : Y ≤ sb
  be : Y ≤ eb
  st : OI Y w sv t.sk.reverse
  lo : OI Y w lv t.lo
  ar : OI Y w av t.ar
theorem SE.kp {Y B Z : Nat} {w w' : World} {sb eb : Nat} {t : PM} {sv lv av : Value} (h : SE Y w sb eb t sv lv av) (hk : Kp B Z w w') (hZ : w.heap.size ≤ Z) : SE Y w' sb eb t sv lv av :=
  ⟨(hk.far sb _ _ (by have := lt_row h.s; omega) h.s (by decide) (by decide)).trans h.s, (hk.far eb _ _ (by have := lt_row h.e; omega) h.e (by decide) (by decide)).trans h.e, h.bs, h.be, own_kp h.st hk hZ (by decide) (by decide), own_kp h.lo hk hZ (by decide) (by decide), own_kp h.ar hk hZ (by decide) (by decide)⟩
theorem SE.stay {Y : Nat} {w w' : World} {sb eb : Nat} {t : PM} {sv lv av : Value} (h : SE Y w sb eb t sv lv av) (hk : ∀ (g : Nat) (c : Array Value) (t : TypeId), (t = 70 ∨ t = 100 ∨ t = 3) → Y ≤ g → w.heap[g]? = some (Obj.cells c t (0, 0)) → w'.heap[g]? = w.heap[g]?) : SE Y w' sb eb t sv lv av :=
  ⟨(hk sb _ _ (by simp) h.bs h.s).trans h.s, (hk eb _ _ (by simp) h.be h.e).trans h.e, h.bs, h.be, own_stay h.st fun g c q hg => hk g c _ (by simp) (h.st.lt g q).1 hg, own_stay h.lo fun g c q hg => hk g c _ (by simp) (h.lo.lt g q).1 hg, own_stay h.ar fun g c q hg => hk g c _ (by simp) (h.ar.lt g q).1 hg⟩
end Go.Proofs.YtbpcibnomkfglaaGreatDoor
/- What stays when a task's own block is put. -/

namespace Go.Proofs.YtbpcibnomkfglaaGreatDoor
open Go.RowKit Go.ChangeShapes Go.WideShapes Go.ChangeAt Go.Deep

theorem Kp.setCell {B X x i : Nat} {w w' : World} (h : Kp B X w w') (hx : X ≤ x) (hB : B ≤ X) (u : Value) : Kp B X w (w'.setCell ⟨x, i, none⟩ u) :=
  ⟨h.below.setCell (p := ⟨x, i, none⟩) (Nat.le_trans hB hx) u, fun k c t hk hc h1 h2 => by
    rw [heap_setCell_other _ _ _ _ (show k ≠ x by omega)]
    exact h.far k c t hk hc h1 h2⟩
theorem Kp.setCells {B X x : Nat} {w w' : World} (h : Kp B X w w') (hx : X ≤ x) (hB : B ≤ X) (o : Nat) (vs : List Value) : Kp B X w (w'.setCells x o vs) :=
  ⟨setCells_below (Nat.le_trans hB hx) vs o h.below, fun k c t hk hc h1 h2 => by
    rw [setCells_other (k := k) (b := x) (show k ≠ x by omega) vs o w']
    exact h.far k c t hk hc h1 h2⟩
theorem Kp.below_more {B X : Nat} {w w' w'' : World} (h : Kp B X w w') (hb : Below w'.heap.size w' w'') (hX : X ≤ w'.heap.size) (hB : B ≤ X) : Kp B X w w'' :=
  h.trans (Kp.of (hb.mono hX) hB) (Nat.le_refl _)
/-- Other blocks are as they were. -/
def Else (x : Nat) (w w' : World) : Prop := ∀ g, g ≠ x → w'.heap[g]? = w.heap[g]?
theorem Else.cell (x i : Nat) (w : World) (u : Value) : Else x w (w.setCell ⟨x, i, none⟩ u) := fun _ hg => heap_setCell_other _ _ _ _ hg
theorem Else.cells (x o : Nat) (w : World) (vs : List Value) : Else x w (w.setCells x o vs) := fun g hg => setCells_other (k := g) (b := x) hg vs o w
theorem tagNe {w : World} {g x : Nat} {c c' : Array Value} {t t' : TypeId} (h : w.heap[g]? = some (.cells c t (0, 0))) (h' : w.heap[x]? = some (.cells c' t' (0, 0))) (ht : t ≠ t') : g ≠ x := by
  rintro rfl
  rw [h] at h'
  simp only [Option.some.injEq, Obj.cells.injEq] at h'
  exact ht h'.2.1
theorem own_else {B e k n x : Nat} {w w' : World} {v : Value} {xs : List Value} {c : Array Value} {t : TypeId} (h : w.ownsRow B e k v n xs) (he : Else x w w') (hx : w.heap[x]? = some (.cells c t (0, 0))) (ht : e ≠ t) : w'.ownsRow B e k v n xs :=
  own_stay h fun g _ _ hg => he g (tagNe hg hx ht)
theorem EvM.els {B x : Nat} {w w' : World} {v : Nat} {j : JV} {L : List ET} {ev : Value} {ov : Bool} {c : Array Value} {t : TypeId} (h : EvM B w v j L ev ov) (he : Else x w w') (hx : w.heap[x]? = some (.cells c t (0, 0))) (h1 : 53 ≠ t) (h2 : 37 ≠ t) : EvM B w' v j L ev ov :=
  ⟨(he v (tagNe h.at_ hx h1)).trans h.at_, h.bv, own_else h.own he hx h2⟩
theorem Ents.els {B x : Nat} {w w' : World} {L : List ET} {c : Array Value} {t : TypeId} (h : Ents B w L) (he : Else x w w') (hx : w.heap[x]? = some (.cells c t (0, 0))) (h1 : 3 ≠ t) : Ents B w' L := fun e m => ⟨own_else (h e m).args he hx h1, own_else (h e m).aws he hx h1⟩
theorem SE.els {Y x : Nat} {w w' : World} {sb eb : Nat} {t : PM} {sv lv av : Value} {c : Array Value} {ty : TypeId} (h : SE Y w sb eb t sv lv av) (he : Else x w w') (hx : w.heap[x]? = some (.cells c ty (0, 0))) (h1 : 70 ≠ ty) (h2 : 100 ≠ ty) (h3 : 3 ≠ ty) : SE Y w' sb eb t sv lv av :=
  ⟨(he sb (tagNe h.s hx h1)).trans h.s, (he eb (tagNe h.e hx h2)).trans h.e, h.bs, h.be, own_else h.st he hx h3, own_else h.lo he hx h3, own_else h.ar he hx h3⟩
/-- A task that goes on, its state left aside. -/
structure DgW (X : Nat) (w : World) (x : Nat) (d : Dg) (a aw sv lv rv : Value) : Prop where
  at_ : w.heap[x]? = some (.cells (dgRow d a aw sv lv rv).toArray 73 (0, 0))
  bx : X ≤ x
  args : OI X w a d.e.args
  aws : OI X w aw d.e.awaits
  res : w.ownsRow X 34 2 rv d.res.length (rowsR d.res)
  na : ∀ g, aw.ownBlock = some g → a.ownBlock ≠ some g
theorem DgM.w {X : Nat} {w : World} {x : Nat} {d : Dg} {a aw sv lv rv : Value} (h : DgM X w x d a aw sv lv rv) : DgW X w x d a aw sv lv rv := ⟨h.at_, h.bx, h.args, h.aws, h.res, h.na⟩
theorem DgW.cell {X : Nat} {w : World} {x : Nat} {d : Dg} {a aw sv lv rv : Value} (h : DgW X w x d a aw sv lv rv) (i : Nat) (u : Value) (hu : (dgRow d a aw sv lv rv)[i]? = some u) : w.cell? ⟨x, i, none⟩ = some u := cell_row h.at_ hu
theorem DgW.froz {X : Nat} {w : World} {x : Nat} {d : Dg} {a aw sv lv rv : Value} (h : DgW X w x d a aw sv lv rv) (i : Nat) : w.frozen? ⟨x, i, none⟩ = false := by simp [World.frozen?, h.at_]
theorem DgW.lt {X : Nat} {w : World} {x : Nat} {d : Dg} {a aw sv lv rv : Value} (h : DgW X w x d a aw sv lv rv) : x < w.heap.size := lt_row h.at_
theorem DgW.kp {X B Y : Nat} {w w' : World} {x : Nat} {d : Dg} {a aw sv lv rv : Value} (h : DgW X w x d a aw sv lv rv) (hk : Kp B Y w w') (hY : w.heap.size ≤ Y) : DgW X w' x d a aw sv lv rv :=
  ⟨(hk.far x _ _ (by have := h.lt; omega) h.at_ (by decide) (by decide)).trans h.at_, h.bx, own_kp h.args hk hY (by decide) (by decide), own_kp h.aws hk hY (by decide) (by decide), own_kp h.res hk hY (by decide) (by decide), h.na⟩
theorem DgW.els {X : Nat} {w w' : World} {x : Nat} {d d' : Dg} {a aw sv lv rv : Value} (h : DgW X w x d a aw sv lv rv) (he : Else x w w') (hx : w'.heap[x]? = some (.cells (dgRow d' a aw sv lv rv).toArray 73 (0, 0))) (e1 : d'.e.args = d.e.args) (e2 : d'.e.awaits = d.e.awaits) (e5 : d'.res = d.res) : DgW X w' x d' a aw sv lv rv :=
  ⟨hx, h.bx, by rw [e1]; exact own_else h.args he h.at_ (by decide), by rw [e2]; exact own_else h.aws he h.at_ (by decide), by rw [e5]; exact own_else h.res he h.at_ (by decide), h.na⟩
theorem DgW.put {X : Nat} {w : World} {x : Nat} {d : Dg} {a aw sv lv rv : Value} (h : DgW X w x d a aw sv lv rv) (i : Nat) (u : Value) (d' : Dg) (hr : (dgRow d a aw sv lv rv).set i u = dgRow d' a aw sv lv rv) (e1 : d'.e.args = d.e.args) (e2 : d'.e.awaits = d.e.awaits) (e5 : d'.res = d.res) : DgW X (w.setCell ⟨x, i, none⟩ u) x d' a aw sv lv rv :=
  h.els (Else.cell x i w u) (by rw [heap_setCell_same w x i _ 73 u h.at_, ← hr]; simp) e1 e2 e5
/-- The block of a task is put; its rows are as they were. -/
theorem DgM.els {X : Nat} {w w' : World} {x : Nat} {d d' : Dg} {a aw sv lv rv : Value} (h : DgM X w x d a aw sv lv rv) (he : Else x w w') (hx : w'.heap[x]? = some (.cells (dgRow d' a aw sv lv rv).toArray 73 (0, 0))) (e1 : d'.e.args = d.e.args) (e2 : d'.e.awaits = d.e.awaits) (e3 : d'.s.sk = d.s.sk) (e4 : d'.s.lo = d.s.lo) (e5 : d'.res = d.res) : DgM X w' x d' a aw sv lv rv :=
  ⟨hx, h.bx, by rw [e1]; exact own_else h.args he h.at_ (by decide), by rw [e2]; exact own_else h.aws he h.at_ (by decide), by rw [e3]; exact own_else h.st he h.at_ (by decide), by rw [e4]; exact own_else h.lo he h.at_ (by decide), by rw [e5]; exact own_else h.res he h.at_ (by decide), h.na⟩
theorem DgM.put {X : Nat} {w : World} {x : Nat} {d : Dg} {a aw sv lv rv : Value} (h : DgM X w x d a aw sv lv rv) (i : Nat) (u : Value) (d' : Dg) (hr : (dgRow d a aw sv lv rv).set i u = dgRow d' a aw sv lv rv) (e1 : d'.e.args = d.e.args) (e2 : d'.e.awaits = d.e.awaits) (e3 : d'.s.sk = d.s.sk) (e4 : d'.s.lo = d.s.lo) (e5 : d'.res = d.res) : DgM X (w.setCell ⟨x, i, none⟩ u) x d' a aw sv lv rv :=
  h.els (Else.cell x i w u) (by rw [heap_setCell_same w x i _ 73 u h.at_, ← hr]; simp) e1 e2 e3 e4 e5
/-- The state is put. -/
theorem DgW.state {X Y : Nat} {w : World} {x sb eb : Nat} {d : Dg} {a aw sv lv rv sv' lv' av' : Value} {t : PM} (h : DgW X w x d a aw sv lv rv) (hs : SE Y w sb eb t sv' lv' av') (hY : X ≤ Y) : DgM X (w.setCells x 8 (stRow t sv' lv')) x ⟨d.e, t, d.res, d.ended⟩ a aw sv' lv' rv :=
  ⟨by rw [setCells_many _ 8 w _ h.at_]; rfl, h.bx, own_else h.args (Else.cells x 8 w _) h.at_ (by decide), own_else h.aws (Else.cells x 8 w _) h.at_ (by decide), own_mono (own_else hs.st (Else.cells x 8 w _) h.at_ (by decide)) hY, own_mono (own_else hs.lo (Else.cells x 8 w _) h.at_ (by decide)) hY, own_else h.res (Else.cells x 8 w _) h.at_ (by decide), h.na⟩
/-- Blocks of other tags are as they were. -/
def Tg (T : TypeId) (w w' : World) : Prop := ∀ (g : Nat) (c : Array Value) (t : TypeId), t ≠ T → w.heap[g]? = some (Obj.cells c t (0, 0)) → w'.heap[g]? = w.heap[g]?
theorem Tg.of {B e k n : Nat} {w w' : World} {v : Value} {xs : List Value} (h : w.ownsRow B e k v n xs) (hg : w.grownBy w' v.ownBlock) : Tg e w w' := fun g c t ht hc => by
  refine hg.block g (lt_row hc) (fun q => ?_)
  rcases h.2 with ⟨rfl, _⟩ | ⟨g', cap, cur, rfl, _, q3, _⟩
  · cases q
  · cases q
    rw [q3] at hc
    simp only [Option.some.injEq, Obj.cells.injEq] at hc
    exact ht hc.2.1.symm
theorem own_tg {B e k n T : Nat} {w w' : World} {v : Value} {xs : List Value} (h : w.ownsRow B e k v n xs) (hT : Tg T w w') (he : e ≠ T) : w'.ownsRow B e k v n xs := own_stay h fun g c _ hg => hT g c e he hg
theorem EvM.tg {B T : Nat} {w w' : World} {v : Nat} {j : JV} {L : List ET} {ev : Value} {ov : Bool} (h : EvM B w v j L ev ov) (hT : Tg T w w') (h1 : 53 ≠ T) (h2 : 37 ≠ T) : EvM B w' v j L ev ov := ⟨(hT v _ _ h1 h.at_).trans h.at_, h.bv, own_tg h.own hT h2⟩
theorem Ents.tg {B T : Nat} {w w' : World} {L : List ET} (h : Ents B w L) (hT : Tg T w w') (h1 : 3 ≠ T) : Ents B w' L := fun e m => ⟨own_tg (h e m).args hT h1, own_tg (h e m).aws hT h1⟩
theorem SE.tg {Y T : Nat} {w w' : World} {sb eb : Nat} {t : PM} {sv lv av : Value} (h : SE Y w sb eb t sv lv av) (hT : Tg T w w') (h1 : 70 ≠ T) (h2 : 100 ≠ T) (h3 : 3 ≠ T) : SE Y w' sb eb t sv lv av :=
  ⟨(hT sb _ _ h1 h.s).trans h.s, (hT eb _ _ h2 h.e).trans h.e, h.bs, h.be, own_tg h.st hT h3, own_tg h.lo hT h3, own_tg h.ar hT h3⟩
/-- The results are put. -/
theorem DgW.putRes {X : Nat} {w w' : World} {x : Nat} {d : Dg} {a aw sv lv rv rv' : Value} {res : List (Int × Int)} (h : DgW X w x d a aw sv lv rv) (hT : Tg 34 w w') (ho : w'.ownsRow X 34 2 rv' res.length (rowsR res)) : DgW X (w'.setCell ⟨x, 15, none⟩ rv') x ⟨d.e, d.s, res, d.ended⟩ a aw sv lv rv' := by
  have hx : w'.heap[x]? = some (.cells (dgRow d a aw sv lv rv).toArray 73 (0, 0)) := (hT x _ _ (by decide) h.at_).trans h.at_
  have hE := Else.cell x 15 w' rv'
  exact ⟨by rw [heap_setCell_same w' x 15 _ 73 rv' hx]; simp [dgRow, En.row, stRow], h.bx, own_else (own_tg h.args hT (by decide)) hE hx (by decide), own_else (own_tg h.aws hT (by decide)) hE hx (by decide), own_else ho hE hx (by decide), h.na⟩
theorem own_apart {B e k n : Nat} {w w' : World} {v u : Value} {xs : List Value} (h : w.ownsRow B e k v n xs) (hg : w.grownBy w' u.ownBlock) (ha : ∀ g, u.ownBlock = some g → v.ownBlock ≠ some g) : w'.ownsRow B e k v n xs := by
  refine own_stay h fun g c hv hc => hg.block g (lt_row hc) (fun q => ?_)
  exact ha g q.symm hv
theorem Ents.apart {B : Nat} {w w' : World} {L : List ET} {u : Value} (h : Ents B w L) (hg : w.grownBy w' u.ownBlock) (ha : Ap u L) : Ents B w' L := fun t m => ⟨own_apart (h t m).args hg (fun g q => (ha t m g q).1), own_apart (h t m).aws hg (fun g q => (ha t m g q).2)⟩
theorem SE.apart {Y : Nat} {w w' : World} {sb eb : Nat} {t : PM} {sv lv av u : Value} (h : SE Y w sb eb t sv lv av) (hg : w.grownBy w' u.ownBlock) (hT : Tg 3 w w') (ha : ∀ g, u.ownBlock = some g → g < Y) : SE Y w' sb eb t sv lv av :=
  ⟨(hT sb _ _ (by decide) h.s).trans h.s, (hT eb _ _ (by decide) h.e).trans h.e, h.bs, h.be, own_apart h.st hg (fun g q e => by have := (h.st.lt g e).1; have := ha g q; omega), own_apart h.lo hg (fun g q e => by have := (h.lo.lt g e).1; have := ha g q; omega), own_apart h.ar hg (fun g q e => by have := (h.ar.lt g e).1; have := ha g q; omega)⟩
/-- The awaits are put. -/
theorem DgW.putAws {X : Nat} {w w' : World} {x : Nat} {d : Dg} {a aw sv lv rv aw' : Value} {aws : List Int} (h : DgW X w x d a aw sv lv rv) (hg : w.grownBy w' aw.ownBlock) (hT : Tg 3 w w') (ho : OI X w' aw' aws) (hna : ∀ g, aw'.ownBlock = some g → a.ownBlock ≠ some g) : DgW X (w'.setCell ⟨x, 7, none⟩ aw') x ⟨{ d.e with awaits := aws }, d.s, d.res, d.ended⟩ a aw' sv lv rv := by
  have hx : w'.heap[x]? = some (.cells (dgRow d a aw sv lv rv).toArray 73 (0, 0)) := (hT x _ _ (by decide) h.at_).trans h.at_
  have hE := Else.cell x 7 w' aw'
  exact ⟨by rw [heap_setCell_same w' x 7 _ 73 aw' hx]; simp [dgRow, En.row, stRow], h.bx, own_else (own_apart h.args hg h.na) hE hx (by decide), own_else ho hE hx (by decide), own_else (own_tg h.res hT (by decide)) hE hx (by decide), hna⟩
theorem Ap.fresh {X : Nat} {w w' : World} {aw : Value} {xs : List Int} {N : List ET} (h : OI X w aw xs) (hN : Ents w.heap.size w' N) : Ap aw N := fun t m g q => ⟨fun e => by have := (h.lt g q).2; have := ((hN t m).args.lt g e).1; omega, fun e => by have := (h.lt g q).2; have := ((hN t m).aws.lt g e).1; omega⟩
theorem Ap.app {aw : Value} {N M : List ET} (h : Ap aw N) (h' : Ap aw M) : Ap aw (N ++ M) := fun t m g q => by
  rcases List.mem_append.1 m with m | m
  · exact h t m g q
  · exact h' t m g q
theorem Ents.app {B : Nat} {w : World} {N M : List ET} (h : Ents B w N) (h' : Ents B w M) : Ents B w (N ++ M) := fun t m => by
  rcases List.mem_append.1 m with m | m
  · exact h t m
  · exact h' t m
/-- A row that was grown: the same block, or a new one: apart from all that was apart, and there. -/
theorem Ap.grown {B : Nat} {w : World} {aw aw' : Value} {N : List ET} (h : Ap aw N) (hN : Ents B w N) (hw : aw'.ownBlock = aw.ownBlock ∨ ∀ g, aw'.ownBlock = some g → w.heap.size ≤ g) : Ap aw' N := fun t m g q => by
  rcases hw with e | e
  · exact h t m g (e ▸ q)
  · exact ⟨fun k => by have := ((hN t m).args.lt g k).2; have := e g q; omega, fun k => by have := ((hN t m).aws.lt g k).2; have := e g q; omega⟩
end Go.Proofs.YtbpcibnomkfglaaGreatDoor
