/- General facts: how slices read, rows of one's own, appends, regions that draw their order. -/
import Derived.Test.YtofigofaiadffaaRows
import Derived.WalkKit
import Derived.ProofKit
import Derived.OpenShut
import Derived.WalkLawsBesides
import Derived.WalkSpells
import Derived.Laws.CopyOwn
import Derived.Laws.BytesArg
import Derived.Laws.BitsAllLaws
import Derived.Laws.AppendOwnNone
import Derived.Deep.RegionHeld3
import Derived.Deep.DrawnRows
import Derived.Deep.Grids
namespace Go.Proofs.Ytofigofaiadffaa
open Go.RowKit Go.ChangeShapes Go.WideShapes Go.ChangeAt Go.Deep

theorem hide {p : Prop} (h : p) : Go.RowKit.Hid p := h

theorem unhide {p : Prop} (h : Go.RowKit.Hid p) : p := h

/-- A row of bytes as cells. -/
def bV (l : List Nat) : List Value := l.map fun (x : Nat) => Value.int .u8 (x : Int)

theorem bV_append (a b : List Nat) : bV (a ++ b) = bV a ++ bV b := by simp [bV]

theorem bV_length (a : List Nat) : (bV a).length = a.length := by simp [bV]

/-- All are bytes. -/
def Byt (bs : List Nat) : Prop := ∀ x ∈ bs, x < 256

theorem Byt.drop {bs : List Nat} (h : Byt bs) (k : Nat) : Byt (bs.drop k) := fun x hx => h x (List.mem_of_mem_drop hx)

theorem Byt.take {bs : List Nat} (h : Byt bs) (k : Nat) : Byt (bs.take k) := fun x hx => h x (List.mem_of_mem_take hx)

theorem ret_bool {a : Bool} (h : a = true) : Ending.returned (.bool a) = .returned (.bool true) := by rw [h]

theorem ret_int {k : IntKind} {a b : Int} (h : a = b) : Ending.returned (.int k a) = .returned (.int k b) := by rw [h]

/-- The first cells of a slice hold these values: 'a' is where it begins. -/
def Reads (w : World) (a : Option Addr) (xs : List Value) : Prop := xs = [] ∨ ∃ b off, a = some ⟨b, off, none⟩ ∧ ∀ j u, xs[j]? = some u → w.cell? ⟨b, off + j, none⟩ = some u

theorem add_none (b off j : Nat) : (⟨b, off, none⟩ : Addr).add j = ⟨b, off + j, none⟩ := by
  unfold Addr.add; split <;> simp_all

theorem Reads.at {w : World} {a : Option Addr} {xs : List Value} (h : Reads w a xs) (h0 : 0 < xs.length) : ∃ ad, a = some ad ∧ ∀ j v, xs[j]? = some v → w.cell? (ad.add j) = some v := by
  rcases h with rfl | ⟨b, off, rfl, h⟩
  · simp at h0
  · exact ⟨_, rfl, fun j v hv => by rw [add_none]; exact h j v hv⟩

theorem cell_some_lt {w : World} {p : Addr} {u : Value} (h : w.cell? p = some u) : p.block < w.heap.size := by
  simp only [World.cell?] at h
  cases hq : w.heap[p.block]? with
  | none => simp [hq] at h
  | some o => exact (Array.getElem?_eq_some_iff.1 hq).1

theorem Reads.below {w w' : World} {a : Option Addr} {xs : List Value} (h : Reads w a xs) (hb : Below w.heap.size w w') : Reads w' a xs := by
  rcases h with rfl | ⟨b, off, rfl, h⟩
  · exact .inl rfl
  · exact .inr ⟨b, off, rfl, fun j u hu => by rw [hb.cell (cell_some_lt (h j u hu))]; exact h j u hu⟩

theorem made_row {w : World} {B g n : Nat} {xs : List Value} (h : w.ownsRow B 5 1 (.slice (some ⟨g, 0, none⟩) n n) n xs) : ∃ cur : List Value, cur.length = n ∧ w.heap[g]? = some (.cells cur.toArray 5 (0, 0)) := by
  rcases h.2 with ⟨h1, _⟩ | ⟨g', cap, cur, h1, _, h2, _, _, h3, _⟩
  · simp at h1
  · simp at h1
    obtain ⟨rfl, rfl⟩ := h1
    exact ⟨cur.toList, by simpa using h3, by simpa using h2⟩

theorem Try.info5 : (Try.prog.info? 5).map (fun i => (i.zero, i.size, i.bytes)) = some (some (.int .u8 0), 1, 1) := by kernel_rfl

theorem own_step {B m : Nat} {u0 v2 : Value} {ys : List Nat} {b : Int} {x : Nat} {w0 wr w2 : World} {o : Obj} (ho : wr.ownsRow B 5 1 u0 m (bV ys)) (hbel : Below B w0 wr) (hB : B ≤ w0.heap.size)
    (ho2 : w2.ownsRow B 5 1 v2 (m + 1) (bV ys ++ [.int .u8 b])) (hb : b = (x : Nat)) (hg2 : (wr.alloc o).grownBy w2 u0.ownBlock) :
    w2.ownsRow B 5 1 v2 (m + 1) (bV (ys ++ [x])) ∧ Below B w0 w2 := by
  subst hb
  refine ⟨by simpa [bV] using ho2, ?_⟩
  have hs := hbel.size
  exact (hbel.alloc (by omega) o).grown hg2 (by simp; omega) (fun k hk => (ho.lt k hk).1)

theorem bV_one (xs : List Nat) : ∀ v ∈ bV xs, v.oneCell' = true := by
  intro v hv
  simp only [bV, List.mem_map] at hv
  obtain ⟨x, _, rfl⟩ := hv
  rfl

def iV (ns : List Int) : List Value := ns.map fun n => Value.int .i64 n

def In64 (ns : List Int) : Prop := ∀ n ∈ ns, -9223372036854775808 ≤ n ∧ n ≤ 9223372036854775807

/-- The text of bytes. -/
def bstr (xs : List Nat) : ByteArray := strOfNums (xs.map fun (x : Nat) => (x : Int))

theorem run_string (w : World) (a : Option Addr) (cap : Nat) (xs : List Nat) (h : Reads w a (bV xs)) :
    (convert 32 9 (.slice a xs.length cap)).run Try.prog w = .ok (.string (bstr xs)) w := by
  rcases h with h | ⟨b, off, rfl, hc⟩
  · have : xs = [] := by simpa [bV] using h
    subst this
    cases a with
    | none => exact run_convert_bytes_nil w 32 5 Try.underlying32 Try.underlying5 0 cap 9 Try.underlying9
    | some ad =>
      have hl : (loadCells ad 0).run Try.prog w = .ok (([] : List Int).map (Value.int .u8)).toArray w := by
        simpa using run_loadCells_list (P := Try.prog) w ad [] (by simp)
      show (convert 32 9 (.slice (some ad) 0 cap)).run Try.prog w = _
      rw [run_convert_bytes_string w 32 9 5 _ 0 cap Try.underlying32 Try.underlying5 Try.underlying9, run_bytesToString w ad 0 cap [] hl]
      rfl
  · exact run_convert_bytes_arg w 32 5 Try.underlying32 Try.underlying5 b off xs.length cap (xs.map fun (x : Nat) => (x : Int)) (by simp) (fun i hi => hc i _ (by simp [bV, List.getD, hi])) 9 Try.underlying9

theorem reads_own {w : World} {B n : Nat} {v : Value} {xs : List Nat} (h : w.ownsRow B 5 1 v n (bV xs)) (hv : v ≠ .slice none 0 0) :
    ∃ g cap, v = .slice (some ⟨g, 0, none⟩) xs.length cap ∧ B ≤ g ∧ n = xs.length ∧ n ≤ cap ∧ Reads w (some ⟨g, 0, none⟩) (bV xs) := by
  have hn : n = xs.length := by have := h.1; rw [bV_length] at this; omega
  have h' := h
  rcases h.2 with ⟨h1, _⟩ | ⟨g, cap, cur, rfl, hB, _, h3, _⟩
  · exact absurd h1 hv
  · subst hn
    refine ⟨g, cap, rfl, hB, rfl, h3, .inr ⟨g, 0, rfl, fun j u hu => ?_⟩⟩
    have := h'.cells (g := g) rfl j u hu
    rwa [add_none] at this

theorem reads_new (w : World) (xs : List Value) (t : TypeId) : Reads (w.alloc (.cells xs.toArray t)) (some ⟨w.heap.size, 0, none⟩) xs := by
  refine .inr ⟨_, _, rfl, fun j u hu => ?_⟩
  rw [World.cell?_alloc_at _ _ _ _ rfl]
  simpa using hu

theorem reads_cell {w : World} {g : Nat} {xs : List Nat} (h : Reads w (some ⟨g, 0, none⟩) (bV xs)) (j : Nat) (hj : j < xs.length) : w.cell? ⟨g, j, none⟩ = some (.int .u8 (xs[j] : Nat)) := by
  rcases h with h | ⟨b, off, e, h⟩
  · have : xs = [] := by simpa [bV] using h
    subst this; simp at hj
  · simp at e
    obtain ⟨rfl, rfl⟩ := e
    have := h j (.int .u8 (xs[j] : Nat)) (by simp [bV, hj])
    simpa using this

theorem grown_setCell (w : World) (c o : Nat) (v : Value) : w.grownBy (w.setCell ⟨c, o, none⟩ v) (some c) :=
  ⟨rfl, rfl, rfl, by simp [World.setCell], fun k _ hk => Below.heap_setCell _ _ _ _ (fun e => hk (by rw [e]))⟩

theorem grown_trans {a b c : World} {row : Option Nat} (h : a.grownBy b row) (k : b.grownBy c row) : a.grownBy c row :=
  ⟨k.os.trans h.os, k.tape.trans h.tape, k.output.trans h.output, Nat.le_trans h.size k.size, fun i hi hr => (k.block i (Nat.lt_of_lt_of_le hi h.size) hr).trans (h.block i hi hr)⟩

theorem grown_refl (w : World) (row : Option Nat) : w.grownBy w row := ⟨rfl, rfl, rfl, Nat.le_refl _, fun _ _ _ => rfl⟩

theorem Reads.take {w : World} {a : Option Addr} {bs : List Nat} (h : Reads w a (bV bs)) (k : Nat) : Reads w a (bV (bs.take k)) := by
  rcases h with h | ⟨b, off, e, h⟩
  · have : bs = [] := by simpa [bV] using h
    subst this; exact .inl (by simp [bV])
  · refine .inr ⟨b, off, e, fun j u hu => h j u ?_⟩
    simp only [bV, List.map_take, List.getElem?_take] at hu
    split at hu
    · exact hu
    · cases hu

theorem reads_own' {w : World} {B n : Nat} {v : Value} {xs : List Nat} (h : w.ownsRow B 5 1 v n (bV xs)) (hv : v ≠ .slice none 0 0) :
    ∃ g cap m, v = .slice (some ⟨g, 0, none⟩) m cap ∧ Hid (xs.length = m) ∧ Hid (n = m) ∧ B ≤ g ∧ m ≤ cap ∧ Reads w (some ⟨g, 0, none⟩) (bV xs) := by
  obtain ⟨g, cap, h1, h2, h3, h4, h5⟩ := reads_own h hv
  exact ⟨g, cap, n, by rw [h1, h3], h3.symm, rfl, h2, h4, h5⟩

theorem reads_add {w : World} {g : Nat} {xs : List Nat} (h : Reads w (some ⟨g, 0, none⟩) (bV xs)) : ∀ j u, (bV xs)[j]? = some u → w.cell? ((⟨g, 0, none⟩ : Addr).add j) = some u := by
  rcases h with h | ⟨b, off, e, h⟩
  · rw [h]; simp
  · simp at e
    obtain ⟨rfl, rfl⟩ := e
    intro j u hu
    rw [add_none]; exact h j u hu

theorem own_mono {w : World} {b b' n : Nat} {v : Value} {xs : List Value} (h : w.ownsRow b 5 1 v n xs) (hb : b' ≤ b) : w.ownsRow b' 5 1 v n xs := by
  refine ⟨h.1, ?_⟩
  rcases h.2 with h | ⟨g, cap, cur, e, h1, h2⟩
  · exact .inl h
  · exact .inr ⟨g, cap, cur, e, by omega, h2⟩

/-- 'append(v, y...)', v the call's own row of bytes, y a slice of bytes that is read, nil or not. -/
theorem append_bytes {w : World} {ops : Array Oper} {rest : List Oper} {o : Oper} {a : Act} {Q : Exit → Act → World → Prop} (hgd : o.guard = none) (s x : Operand)
    (ho : o.op = .call { callee := .builtin .append, args := #[s, x], argTypes := #[32, 32] })
    (base : Nat) (v : Value) (n : Nat) (xs : List Nat) (hs : a.eval s = v) (hown : w.ownsRow base 5 1 v n (bV xs))
    (ad : Option Addr) (m c : Nat) (ys : List Nat) (hx : a.eval x = .slice ad m c) (hnil : ad = none → m = 0 ∧ c = 0) (hl : ys.length = m) (hr : Reads w ad (bV ys))
    (hb : n + m ≤ 140737488355328) (hbase : base ≤ w.heap.size)
    (h : ∀ v' w', w'.ownsRow base 5 1 v' (n + m) (bV (xs ++ ys)) → w.grownBy w' v.ownBlock → (v' = .slice none 0 0 ↔ v = .slice none 0 0 ∧ m = 0) → wpList Try.prog ops Q rest (a.put o.dst v') w') :
    wpList Try.prog ops Q (o :: rest) a w := by
  obtain ⟨i0, hi, hz0, hz1, hz2⟩ := info_parts Try.info5
  cases ad with
  | none =>
    obtain ⟨rfl, rfl⟩ := hnil rfl
    have hy : ys = [] := by cases ys with | nil => rfl | cons _ _ => simp at hl
    subst hy
    refine wpList_append_own_none hgd s x 32 ho base 5 i0 1 Try.underlying32 hi v n (bV xs) hs hown hx ?_
    have := h v w (by simpa using hown) ⟨rfl, rfl, rfl, Nat.le_refl _, fun _ _ _ => rfl⟩ (by simp)
    exact this
  | some ad =>
    refine wpList_append_own _ hgd s x 32 ho base 5 i0 (.int .u8 0) 1 1 Try.underlying32 hi hz0 hz1 hz2 rfl (by decide) v n (bV xs) hs hown ad m c (bV ys) hx (by rw [bV_length]; omega) ?_ (bV_one ys) (by unfold maxLen; omega) (by omega) hbase ?_
    · rcases hr with hr | ⟨b, off, e, hr⟩
      · rw [hr]; simp
      · simp at e
        subst e
        intro j u hu
        rw [add_none]; exact hr j u hu
    · intro v' w' h1 h2 h3
      exact h v' w' (by rw [bV_append]; exact h1) h2 h3

theorem reads_own_any {w : World} {B n : Nat} {v : Value} {xs : List Nat} (h : w.ownsRow B 5 1 v n (bV xs)) :
    ∃ a cap m, v = .slice a m cap ∧ Hid (xs.length = m) ∧ Reads w a (bV xs) := by
  by_cases hv : v = .slice none 0 0
  · rcases h.2 with ⟨_, hn⟩ | ⟨g, cap, cur, e, _⟩
    · subst hn
      have := h.1
      rw [bV_length] at this
      have hx : xs = [] := by cases xs with | nil => rfl | cons _ _ => simp at this
      subst hx
      exact ⟨none, 0, 0, hv, rfl, .inl rfl⟩
    · rw [hv] at e; simp at e
  · obtain ⟨g, cap, m, e, h1, _, _, _, h2⟩ := reads_own' h hv
    exact ⟨_, cap, m, e, h1, h2⟩

theorem run_str {w : World} {S : ByteArray} {xs : List Nat} {a : Option Addr} {m : Nat} (hS : S = bstr xs) (hm : xs.length = m) (hr : Reads w a (bV xs)) (cap : Nat) :
    (convert 32 9 (.slice a m cap)).run Try.prog w = .ok (.string S) w := by
  subst hm; subst hS; exact run_string w a cap xs hr

theorem Reads.drew {w : World} {a : Option Addr} {xs : List Value} (h : Reads w a xs) : Reads w.drew a xs := by
  rcases h with h | ⟨b, off, e, h⟩
  · exact .inl h
  · exact .inr ⟨b, off, e, fun j u hu => by simpa using h j u hu⟩

theorem below_undrew {B : Nat} {w w' : World} (h : Below B w.drew w') : Below B w w' := ⟨h.os, h.tape, h.output, h.size, h.block⟩

/-- In a region that draws its order: an operation that yields in every world of S is taken first; where it writes is said by d. -/
theorem takeD {P : Program} {md : Region.Mode} {ops : Array Oper} {Q : Exit → Act → World → Prop} {S : World → Prop} {i : Nat} {d : Option Tmp} {oi : Oper} {v : Value} {fuel : Nat} {listed : Array Bool} {a : Act} {w : World} (hi : ops[i]? = some oi) (hd : oi.dst = d)
    (hs : Region.noSelect ops = true) (hf : Region.free md ops listed i = true) (hr : (Region.ready md ops listed).contains i = true)
    (hQ : ∀ c a w, Q (.panic c) (a.put d v) w → Q (.panic c) a w) (hy : YieldsIf P ops S oi v a) (hS : S w)
    (h : wpAnyH P md ops Q S fuel (listed.setIfInBounds i true) (a.put d v) w) : wpAnyH P md ops Q S (fuel + 1) listed a w := by
  subst hd
  exact wpAnyH_take hi hs hf hr hQ hy hS h

def tV (cs : List Bool) : List Value := cs.map fun c => Value.bool c

theorem own_slice {w : World} {B n : Nat} {v : Value} {xs : List Value} (h : w.ownsRow B 5 1 v n xs) : ∃ a cap, v = .slice a n cap ∧ n ≤ cap := by
  rcases h.2 with ⟨rfl, rfl⟩ | ⟨g, cap, cur, rfl, _, _, h1, _⟩
  · exact ⟨none, 0, rfl, Nat.le_refl _⟩
  · exact ⟨_, cap, rfl, h1⟩

theorem reads_plain {w : World} {x : Addr} {k : Nat} {u : Value} (h : w.cell? (x.add k) = some u) (h0 : ∃ u0, w.cell? (x.add 0) = some u0) : ∃ b off, x = ⟨b, off, none⟩ := by
  obtain ⟨b, off, spot⟩ := x
  obtain ⟨u0, h0⟩ := h0
  have hspot : spot = none := by simpa [Addr.add] using World.cell?_spot h0
  subst hspot
  exact ⟨b, off, rfl⟩

theorem arg_bytes {H : Type} {enc : TypeId × Value → H} {W : World} {t e : TypeId} (ht : Try.prog.underlying t = some (.slice e)) (he : Try.prog.underlying e = some (.int .u8)) (hc : Try.prog.cellsOf e = 1)
    {a : Option Addr} {len cap : Nat} {d : DataW H} {p : List MemPlace} (h : DataW.Trod enc Try.prog W 0 (fun _ => true) true t (.slice a len cap) d p) :
    ∃ bs : List Nat, bs.length = len ∧ Byt bs ∧ len ≤ cap ∧ (cap ≤ maxLen ∧ (a = none → len = 0 ∧ cap = 0)) ∧ Reads W a (bV bs) := by
  obtain ⟨fuel, hf⟩ := h
  rcases open_ints ht he hc hf with ⟨hcs, _⟩ | ⟨x, l, c, zs, hcs, _, hl, hm, hz, _, hcell, hwz⟩
  · simp [Value.cells] at hcs
    obtain ⟨rfl, rfl, rfl⟩ := hcs
    exact ⟨[], rfl, (fun x hx => by cases hx), Nat.le_refl _, ⟨by unfold maxLen; omega, fun _ => ⟨rfl, rfl⟩⟩, .inl rfl⟩
  · simp [Value.cells] at hcs
    obtain ⟨rfl, rfl, rfl⟩ := hcs
    have hzl : zs.length = cap := by simpa using hz
    have hb : ∀ n ∈ zs, 0 ≤ n ∧ n ≤ 255 := fun n hn => bounds_u8 (hwz n hn)
    refine ⟨(zs.take len).map Int.toNat, by simp; omega, ?_, hl, ⟨hm, fun h => by cases h⟩, ?_⟩
    · intro y hy
      simp only [List.mem_map] at hy
      obtain ⟨z, hz1, rfl⟩ := hy
      have := hb z (List.mem_of_mem_take hz1); omega
    · by_cases h0 : len = 0
      · exact .inl (by simp [bV, h0])
      · obtain ⟨b, off, rfl, hcb⟩ := ints_at hcell (by omega)
        refine .inr ⟨b, off, rfl, fun j u hu => ?_⟩
        have hj : j < len := by
          rcases Nat.lt_or_ge j len with h | h
          · exact h
          · rw [List.getElem?_eq_none (by simp [bV]; omega)] at hu; cases hu
        rw [hcb j (by omega)]
        have hjz : j < zs.length := by omega
        simp [bV, hj, hjz] at hu
        subst hu
        have := hb zs[j] (List.getElem_mem _)
        simp [List.getD, hjz]; omega

theorem arg_ints {H : Type} {enc : TypeId × Value → H} {W : World} {t e : TypeId} (ht : Try.prog.underlying t = some (.slice e)) (he : Try.prog.underlying e = some (.int .i64)) (hc : Try.prog.cellsOf e = 1)
    {a : Option Addr} {len cap : Nat} {d : DataW H} {p : List MemPlace} (h : DataW.Trod enc Try.prog W 0 (fun _ => true) true t (.slice a len cap) d p) :
    ∃ ns : List Int, ns.length = len ∧ In64 ns ∧ len ≤ cap ∧ (cap ≤ maxLen ∧ (a = none → len = 0 ∧ cap = 0)) ∧ Reads W a (iV ns) := by
  obtain ⟨fuel, hf⟩ := h
  rcases open_ints ht he hc hf with ⟨hcs, _⟩ | ⟨x, l, c, zs, hcs, _, hl, hm, hz, _, hcell, hwz⟩
  · simp [Value.cells] at hcs
    obtain ⟨rfl, rfl, rfl⟩ := hcs
    exact ⟨[], rfl, (fun x hx => by cases hx), Nat.le_refl _, ⟨by unfold maxLen; omega, fun _ => ⟨rfl, rfl⟩⟩, .inl rfl⟩
  · simp [Value.cells] at hcs
    obtain ⟨rfl, rfl, rfl⟩ := hcs
    have hzl : zs.length = cap := by simpa using hz
    refine ⟨zs.take len, by simp; omega, fun n hn => bounds_i64 (hwz n (List.mem_of_mem_take hn)), hl, ⟨hm, fun h => by cases h⟩, ?_⟩
    by_cases h0 : len = 0
    · exact .inl (by simp [iV, h0])
    · obtain ⟨b, off, rfl, hcb⟩ := ints_at hcell (by omega)
      refine .inr ⟨b, off, rfl, fun j u hu => ?_⟩
      have hj : j < len := by
        rcases Nat.lt_or_ge j len with h | h
        · exact h
        · rw [List.getElem?_eq_none (by simp [iV]; omega)] at hu; cases hu
      rw [hcb j (by omega)]
      have hjz : j < zs.length := by omega
      simp [iV, hj, hjz] at hu
      subst hu
      simp [List.getD, hjz]

theorem arg_bools {H : Type} {enc : TypeId × Value → H} {W : World} {t e : TypeId} (ht : Try.prog.underlying t = some (.slice e)) (he : Try.prog.underlying e = some .bool) (hc : Try.prog.cellsOf e = 1)
    {a : Option Addr} {len cap : Nat} {d : DataW H} {p : List MemPlace} (h : DataW.Trod enc Try.prog W 0 (fun _ => true) true t (.slice a len cap) d p) :
    ∃ cs : List Bool, cs.length = len ∧ len ≤ cap ∧ (cap ≤ maxLen ∧ (a = none → len = 0 ∧ cap = 0)) ∧ Reads W a (tV cs) := by
  obtain ⟨fuel, hf⟩ := h
  rcases open_bools ht he hc hf with ⟨hcs, _⟩ | ⟨x, l, c, B, hcs, _, hl, hm, _, hcell⟩
  · simp [Value.cells] at hcs
    obtain ⟨rfl, rfl, rfl⟩ := hcs
    exact ⟨[], rfl, Nat.le_refl _, ⟨by unfold maxLen; omega, fun _ => ⟨rfl, rfl⟩⟩, .inl rfl⟩
  · simp [Value.cells] at hcs
    obtain ⟨rfl, rfl, rfl⟩ := hcs
    refine ⟨(List.range len).map B, by simp, hl, ⟨hm, fun h => by cases h⟩, ?_⟩
    by_cases h0 : len = 0
    · exact .inl (by simp [tV, h0])
    · obtain ⟨b, off, rfl⟩ := reads_plain (hcell 0 (by omega)) ⟨_, hcell 0 (by omega)⟩
      refine .inr ⟨b, off, rfl, fun j u hu => ?_⟩
      have hj : j < len := by
        rcases Nat.lt_or_ge j len with h | h
        · exact h
        · rw [List.getElem?_eq_none (by simp [tV]; omega)] at hu; cases hu
      rw [← add_none, hcell j (by omega)]
      simp [tV, hj] at hu
      rw [hu]

/-- A text: where it lies, how long it is, how much room it has, its bytes. -/
structure Txt where
  a : Option Addr
  len : Nat
  cap : Nat
  bs : List Nat

def Txt.val (t : Txt) : Value := .slice t.a t.len t.cap

def sV (ts : List Txt) : List Value := ts.map Txt.val

/-- A text reads as its bytes. -/
def Txt.ok (w : World) (t : Txt) : Prop := t.bs.length = t.len ∧ Byt t.bs ∧ (t.len ≤ t.cap ∧ t.cap ≤ maxLen) ∧ (t.a = none → t.len = 0 ∧ t.cap = 0) ∧ Reads w t.a (bV t.bs)

theorem Txt.ok.below {w w' : World} {t : Txt} (h : t.ok w) (hb : Below w.heap.size w w') : t.ok w' := ⟨h.1, h.2.1, h.2.2.1, h.2.2.2.1, h.2.2.2.2.below hb⟩

theorem arg_rows {H : Type} {enc : TypeId × Value → H} {W : World} {t e q : TypeId} (ht : Try.prog.underlying t = some (.slice e)) (he : Try.prog.underlying e = some (.slice q)) (hc : Try.prog.cellsOf e = 1) (hq : Try.prog.underlying q = some (.int .u8)) (hcq : Try.prog.cellsOf q = 1)
    {a : Option Addr} {len cap : Nat} {d : DataW H} {p : List MemPlace} (h : DataW.Trod enc Try.prog W 0 (fun _ => true) true t (.slice a len cap) d p) :
    ∃ ts : List Txt, ts.length = len ∧ (∀ t ∈ ts, t.ok W) ∧ Reads W a (sV ts) := by
  obtain ⟨fuel, hf⟩ := h
  rcases open_slice1 ht hc hf with ⟨hcs, _⟩ | ⟨x, l, c, m, n, V, D, Pl, hcs, _, hl, hm, hmm, _, hx⟩
  · simp [Value.cells] at hcs
    obtain ⟨rfl, rfl, rfl⟩ := hcs
    exact ⟨[], rfl, (fun t ht => by cases ht), .inl rfl⟩
  · simp [Value.cells] at hcs
    obtain ⟨rfl, rfl, rfl⟩ := hcs
    simp only [if_true] at hmm
    subst hmm
    have inh : Inhabited Txt := ⟨⟨none, 0, 0, []⟩⟩
    obtain ⟨T, hT⟩ := choose_lt (α := Txt) (n := m) (p := fun i t => V i = t.val ∧ t.ok W) (fun i hi => by
      rcases DataW.trod_slice he (hx i hi).2 with ⟨h0, _⟩ | ⟨a', len', cap', _, _, _, _, h0, _⟩
      · have hv : V i = .slice none 0 0 := by simpa using h0
        obtain ⟨bs, h1, h2, h3, h4, h5⟩ := arg_bytes (enc := enc) (W := W) he hq hcq (d := D i) (p := Pl i) (a := none) (len := 0) (cap := 0) ⟨n, by have := (hx i hi).2; rw [hv] at this; simpa [Value.cells] using this⟩
        exact ⟨⟨none, 0, 0, bs⟩, hv, h1, h2, ⟨h3, h4.1⟩, h4.2, h5⟩
      · have hv : V i = .slice (some a') len' cap' := by simpa using h0
        obtain ⟨bs, h1, h2, h3, h4, h5⟩ := arg_bytes (enc := enc) (W := W) he hq hcq (d := D i) (p := Pl i) (a := some a') (len := len') (cap := cap') ⟨n, by have := (hx i hi).2; rw [hv] at this; simpa [Value.cells] using this⟩
        exact ⟨⟨some a', len', cap', bs⟩, hv, h1, h2, ⟨h3, h4.1⟩, h4.2, h5⟩)
    refine ⟨(List.range len).map T, by simp, ?_, ?_⟩
    · intro t ht
      simp only [List.mem_map, List.mem_range] at ht
      obtain ⟨i, hi, rfl⟩ := ht
      exact (hT i (by omega)).2
    · by_cases h0 : len = 0
      · exact .inl (by simp [sV, h0])
      · obtain ⟨b, off, rfl⟩ := reads_plain (hx 0 (by omega)).1 ⟨_, (hx 0 (by omega)).1⟩
        refine .inr ⟨b, off, rfl, fun j u hu => ?_⟩
        have hj : j < len := by
          rcases Nat.lt_or_ge j len with h | h
          · exact h
          · rw [List.getElem?_eq_none (by simp [sV]; omega)] at hu; cases hu
        rw [← add_none, (hx j (by omega)).1]
        simp [sV, hj] at hu
        rw [(hT j (by omega)).1, hu]

theorem txts_at {w : World} {a : Option Addr} {ts : List Txt} {k : Nat} (h : Reads w a (sV ts)) (hk : k < ts.length) : ∃ b off, a = some ⟨b, off, none⟩ ∧ Hid (∀ j (hj : j < ts.length), w.cell? ⟨b, off + j, none⟩ = some (.slice ts[j].a ts[j].len ts[j].cap)) := by
  rcases h with h | ⟨b, off, e, h⟩
  · have : ts = [] := by simpa [sV] using h
    subst this; simp at hk
  · exact ⟨b, off, e, fun j hj => h j _ (by simp [sV, hj, Txt.val])⟩

theorem reads_own_nil {w : World} {B n : Nat} {v : Value} {xs : List Nat} (h : w.ownsRow B 5 1 v n (bV xs)) :
    ∃ a cap m, v = .slice a m cap ∧ Hid (xs.length = m) ∧ Hid (Reads w a (bV xs)) ∧ (a = none → m = 0 ∧ cap = 0) := by
  by_cases hv : v = .slice none 0 0
  · rcases h.2 with ⟨_, hn⟩ | ⟨g, cap, cur, e, _⟩
    · subst hn
      have := h.1
      rw [bV_length] at this
      have hx : xs = [] := by cases xs with | nil => rfl | cons _ _ => simp at this
      subst hx
      exact ⟨none, 0, 0, hv, rfl, .inl rfl, fun _ => ⟨rfl, rfl⟩⟩
    · rw [hv] at e; simp at e
  · obtain ⟨g, cap, m, e, h1, _, _, _, h2⟩ := reads_own' h hv
    exact ⟨_, cap, m, e, h1, h2, fun h => by cases h⟩

/-- 'append(v, y...)' as one operation. -/
theorem wp_append_bytes {w : World} {o : Oper} {a : Act} {K : Act → World → Prop} {Q : Exit → Act → World → Prop} (s x : Operand)
    (ho : o.op = .call { callee := .builtin .append, args := #[s, x], argTypes := #[32, 32] })
    (base : Nat) (v : Value) (n : Nat) (xs : List Nat) (hs : a.eval s = v) (hown : w.ownsRow base 5 1 v n (bV xs))
    (ad : Option Addr) (m c : Nat) (ys : List Nat) (hx : a.eval x = .slice ad m c) (hnil : ad = none → m = 0 ∧ c = 0) (hl : ys.length = m) (hr : Reads w ad (bV ys))
    (hb : n + m ≤ 140737488355328) (hbase : base ≤ w.heap.size)
    (h : ∀ v' w', w'.ownsRow base 5 1 v' (n + m) (bV (xs ++ ys)) → w.grownBy w' v.ownBlock → (v' = .slice none 0 0 ↔ v = .slice none 0 0 ∧ m = 0) → K (a.put o.dst v') w') :
    Oper.wp Try.prog o a w K Q := by
  obtain ⟨i0, hi, hz0, hz1, hz2⟩ := info_parts Try.info5
  cases ad with
  | none =>
    obtain ⟨rfl, rfl⟩ := hnil rfl
    have hy : ys = [] := by cases ys with | nil => rfl | cons _ _ => simp at hl
    subst hy
    have hrun := run_append_owned_none (P := Try.prog) (w := w) base 32 o.type 5 i0 1 Try.underlying32 hi v n (bV xs) hown
    have hf := h v w (by simpa using hown) ⟨rfl, rfl, rfl, Nat.le_refl _, fun _ _ _ => rfl⟩ (by simp)
    unfold Oper.wp
    simp [execOp, ho, resolve, invoke, builtin, hs, hx, hrun, Result.andThen]
    exact hf
  | some ad =>
    refine wp_append_own w s x 32 ho base 5 i0 (.int .u8 0) 1 1 Try.underlying32 hi hz0 hz1 hz2 rfl (by decide) v n (bV xs) hs hown ad m c (bV ys) hx (by rw [bV_length]; omega) ?_ (bV_one ys) (by unfold maxLen; omega) (by omega) hbase ?_
    · rcases hr with hr | ⟨b, off, e, hr⟩
      · rw [hr]; simp
      · simp at e
        subst e
        intro j u hu
        rw [add_none]; exact hr j u hu
    · intro v' w' h1 h2 h3
      exact h v' w' (by rw [bV_append]; exact h1) h2 h3

theorem Byt.append {a b : List Nat} (h1 : Byt a) (h2 : Byt b) : Byt (a ++ b) := by
  intro x hx
  rcases List.mem_append.1 hx with h | h
  · exact h1 x h
  · exact h2 x h

theorem reads_next (w : World) (o : Obj) (xs : List Value) (t : TypeId) : Reads ((w.alloc o).alloc (.cells xs.toArray t)) (some ⟨w.heap.size + 1, 0, none⟩) xs := by
  have h := reads_new (w.alloc o) xs t
  have e : (w.alloc o).heap.size = w.heap.size + 1 := by simp
  rw [e] at h
  exact h

theorem reads_back {w : World} {g l0 : Nat} {xs ys : List Nat} (hl : xs.length = l0) (h : Reads w (some ⟨g, 0, none⟩) (bV (xs ++ ys))) : Reads w (some ⟨g, l0, none⟩) (bV ys) := by
  rcases h with h | ⟨b, off, e, h⟩
  · have : xs ++ ys = [] := by simpa [bV] using h
    exact .inl (by simp [bV, (List.append_eq_nil_iff.1 this).2])
  · simp at e
    obtain ⟨rfl, rfl⟩ := e
    refine .inr ⟨g, l0, rfl, fun j u hu => ?_⟩
    have := h (l0 + j) u (by rw [bV_append, List.getElem?_append_right (by rw [bV_length]; omega), bV_length]; simpa [hl] using hu)
    simpa using this

theorem nil_of {l0 m4 : Nat} {xs ys : List Nat} (hm : (xs ++ ys).length = m4) (hl : xs.length = l0) (h : m4 ≤ l0) : bV ys = [] := by
  have : ys.length = 0 := by simp at hm; omega
  have : ys = [] := List.eq_nil_of_length_eq_zero this
  simp [bV, this]

theorem xor255 (x : Nat) (h : x < 256) : ∃ y : Nat, y < 256 ∧ bits .xor .u8 (x : Int) 255 = (y : Int) := by
  refine ⟨x ^^^ 255, Nat.xor_lt_two_pow (n := 8) h (by omega), ?_⟩
  rw [show (255 : Int) = ((255 : Nat) : Int) from rfl, u8_xor_nat x 255 h (by omega)]

/-- A byte of one's own row, turned. -/
theorem own_turn {w : World} {B g n cap j : Nat} {zs : List Nat} (ho : w.ownsRow B 5 1 (.slice (some ⟨g, 0, none⟩) n cap) n (bV zs)) (hB : Byt zs) (_hj : j < n) (y : Nat) (hy : y < 256) :
    ∃ zs' : List Nat, Byt zs' ∧ (w.setCell ⟨g, j, none⟩ (.int .u8 (y : Nat))).ownsRow B 5 1 (.slice (some ⟨g, 0, none⟩) n cap) n (bV zs') ∧ w.grownBy (w.setCell ⟨g, j, none⟩ (.int .u8 (y : Nat))) (some g) := by
  have h := ho.stored j (.int .u8 (y : Nat))
  refine ⟨zs.set j y, ?_, ?_, h.2⟩
  · intro z hz
    rcases List.mem_or_eq_of_mem_set hz with h | h
    · exact hB z h
    · omega
  · have e : (bV zs).set j (.int .u8 (y : Nat)) = bV (zs.set j y) := by simp [bV, List.map_set]
    rw [← e]; exact h.1

theorem own_at {w : World} {B g n cap j : Nat} {zs : List Nat} (ho : w.ownsRow B 5 1 (.slice (some ⟨g, 0, none⟩) n cap) n (bV zs)) (hB : Byt zs) (hj : j < n) :
    ∃ x : Nat, x < 256 ∧ w.cell? ⟨g, j, none⟩ = some (.int .u8 (x : Nat)) ∧ w.frozen? ⟨g, j, none⟩ = false := by
  have hl : zs.length = n := by have := ho.1; rw [bV_length] at this; omega
  refine ⟨zs[j]'(by omega), hB _ (List.getElem_mem _), ?_, ho.frozenAt j⟩
  rw [ho.cellAt j (by omega)]
  simp [bV, hl, hj]

theorem own_form {w : World} {B n : Nat} {v : Value} {zs : List Value} (ho : w.ownsRow B 5 1 v n zs) : ∃ a cap, v = .slice a n cap ∧ n ≤ cap ∧ (0 < n → ∃ g, a = some ⟨g, 0, none⟩ ∧ B ≤ g ∧ g < w.heap.size) := by
  have ho' := ho
  rcases ho.2 with ⟨rfl, rfl⟩ | ⟨g, cap, cur, rfl, hB, _, h1, _⟩
  · exact ⟨none, 0, rfl, Nat.le_refl _, fun h => by omega⟩
  · exact ⟨_, cap, rfl, h1, fun _ => ⟨g, rfl, hB, (ho'.lt g rfl).2⟩⟩

theorem own_below {w w' : World} {B n : Nat} {v : Value} {xs : List Value} (h : w.ownsRow B 5 1 v n xs) (hb : Below w.heap.size w w') : w'.ownsRow B 5 1 v n xs :=
  h.kept (row := none) ⟨hb.os, hb.tape, hb.output, hb.size, fun k hk _ => hb.block k hk⟩ (by cases v.ownBlock <;> simp)

theorem own_drew {w : World} {B n : Nat} {v : Value} {xs : List Value} (h : w.ownsRow B 5 1 v n xs) : w.drew.ownsRow B 5 1 v n xs := h

theorem reads_at {w : World} {a : Option Addr} {ns : List Int} {k : Nat} (h : Reads w a (iV ns)) (hk : k < ns.length) : ∃ b off, a = some ⟨b, off, none⟩ ∧ Hid (∀ j u, (iV ns)[j]? = some u → w.cell? ⟨b, off + j, none⟩ = some u) := by
  rcases h with h | ⟨b, off, e, h⟩
  · have : ns = [] := by simpa [iV] using h
    subst this; simp at hk
  · exact ⟨b, off, e, h⟩

theorem cell_far {w w' : World} {b o c : Nat} {u : Value} (h : w.cell? ⟨b, o, none⟩ = some u) (hg : w.drew.grownBy w' (some c)) (hc : b ≠ c) : w'.cell? ⟨b, o, none⟩ = some u := by
  have hb := cell_some_lt h
  rw [World.cell?_of_block (w := w.drew) (a := ⟨b, o, none⟩) (hg.block b hb (by simpa using hc))]
  simpa using h

theorem undrew {w w' : World} {r : Option Nat} (hg : w.drew.grownBy w' r) : w.grownBy w' r := ⟨hg.os, hg.tape, hg.output, hg.size, hg.block⟩

theorem undrew' {w w' : World} {row : Option Nat} (hb : Below w.drew.heap.size w.drew w') : w.grownBy w' row := ⟨hb.os, hb.tape, hb.output, hb.size, fun k hk _ => hb.block k hk⟩

theorem below_of {w w' : World} (hg : w.grownBy w' (Value.slice none 0 0).ownBlock) : Below w.heap.size w w' := (Below.refl _ _).grown hg (Nat.le_refl _) (fun k hk => by cases hk)

theorem keep_cell {w w' : World} {p : Addr} {u : Value} (h : w.cell? p = some u) (hb : Below w.heap.size w w') : w'.cell? p = some u := by
  rw [hb.cell (cell_some_lt h)]; exact h

theorem keep_frozen {w w' : World} {p : Addr} {u : Value} (h : w.cell? p = some u) (hb : Below w.heap.size w w') : w'.frozen? p = w.frozen? p := hb.frozen (cell_some_lt h)

end Go.Proofs.Ytofigofaiadffaa
