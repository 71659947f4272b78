/- slices.Clone of members; a row of one's own that is turned in its block. -/
import Derived.Test.YthjkfpcbbjmclaaFnd
namespace Go.Proofs.Ythjkfpcbbjmclaa
open Go.RowKit Go.ChangeShapes Go.WideShapes Go.ChangeAt Go.Deep

theorem Own.open {B n : Nat} {w : World} {v : Value} {l : List Mb} (h : Own B w v n l) : ∃ a c, v = .slice a n c := by
  obtain ⟨a, c, e, _⟩ := h.form
  exact ⟨a, c, e⟩

theorem eqlNil (a : Option Addr) (n c : Nat) (w : World) : (binOp .eql 22 (.slice a n c) (.slice none 0 0)).run Try.prog w = .ok (.bool a.isNone) w := by
  cases a <;> kernel_rfl
set_option maxRecDepth 100000 in
set_option maxHeartbeats 1000000 in
/-- slices.Clone. -/
theorem clone_any (ms : List Mb) (a : Option Addr) (l c : Nat) (w : World) (hl : ms.length = l) (hlen : l ≤ 20000) (hr : Reads w a (mV ms)) (hn : a = none → l = 0 ∧ c = 0) :
    Calls Try.prog 27 #[.slice a l c] w fun e w' => ∃ v, e = .returned v ∧ Own w.heap.size w' v l ms ∧ Below w.heap.size w w' := by
  cases a with
  | none =>
    obtain ⟨rfl, rfl⟩ := hn rfl
    have hm : ms = [] := List.eq_nil_of_length_eq_zero hl
    subst hm
    have HO := hide (Own.nil w.heap.size w)
    have hq := eqlNil none 0 0
    go_enter Try.func27, Try.ntmps27
    go_wp2
    go_ret
    exact ⟨_, rfl, HO.out, Below.refl _ _⟩
  | some ad =>
    have HR := hide (hr.below (below_new w (.cells #[] 41)))
    have HO := hide (show Own w.heap.size (w.alloc (.cells #[] 41)) (.slice (some ⟨w.heap.size, 0, none⟩) 0 0) 0 [] from World.ownsRow_lit w #[] 0 (Nat.le_refl _) (Nat.zero_le _) rfl)
    have HB := hide (below_new w (.cells #[] 41))
    have HL := hide hl
    have hq := eqlNil (some ad) l c
    clear hr hl hn
    go_enter Try.func27, Try.ntmps27
    go_wp2_with (at_builtin; go_must (refine append_m rfl (.tmp 5) (.tmp 6) rfl w.heap.size (.slice (some ⟨w.heap.size, 0, none⟩) 0 0) 0 [] rfl HO.out (some ad) l c ms rfl (fun h => by cases h) HL.out HR.out (by omega) HB.out.size ?_; intro v' w1 ho hg; have HO1 := hide ho; have HG := hide hg; clear ho hg))
    go_ret
    refine ⟨v', rfl, by have := HO1.out; simpa using this, ?_⟩
    exact HB.out.grown HG.out HB.out.size (fun k hk => by simp [Value.ownBlock] at hk; omega)

/-! A row that is turned in its block. -/
theorem Own.row {B n g c : Nat} {w : World} {l : List Mb} (h : Own B w (.slice (some ⟨g, 0, none⟩) n c) n l) : ∃ cur : Array Value, w.heap[g]? = some (.cells cur 41 (0, 0)) ∧ cur.size = c * 2 ∧ cur.toList.take (n * 2) = mV l ∧ n ≤ c ∧ c ≤ maxLen ∧ B ≤ g := by
  rcases h.2 with ⟨h', _⟩ | ⟨g', cap', cur, h', h1, hg, h3, h4, h5, htake⟩
  · simp at h'
  · simp only [Value.slice.injEq, Option.some.injEq, Addr.mk.injEq, and_true, true_and] at h'
    obtain ⟨rfl, rfl⟩ := h'
    exact ⟨cur, hg, h5, htake, h3, h4, h1⟩
theorem Own.of_row {B n g c : Nat} {w : World} {l : List Mb} {cur : Array Value} (hB : B ≤ g) (hg : w.heap[g]? = some (.cells cur 41 (0, 0))) (hs : cur.size = c * 2) (hn : n ≤ c) (hc : c ≤ maxLen) (hl : l.length = n) (ht : cur.toList.take (n * 2) = mV l) : Own B w (.slice (some ⟨g, 0, none⟩) n c) n l :=
  ⟨by rw [mV_len, hl], .inr ⟨g, c, cur, rfl, hB, hg, hn, hc, hs, ht⟩⟩
theorem below_row {T g : Nat} {w : World} (hT : T ≤ g) (cs : Array Value) : Below T w (w.setRow g cs) :=
  ⟨rfl, rfl, rfl, by simp [World.setRow], fun k hk => setRow_other w g k cs (by omega)⟩
theorem Own.cell {B n g c : Nat} {w : World} {l : List Mb} (h : Own B w (.slice (some ⟨g, 0, none⟩) n c) n l) (j : Nat) (hj : j < c * 2) : (w.cell? ⟨g, j, none⟩).isSome = true ∧ w.frozen? ⟨g, j, none⟩ = false := by
  obtain ⟨cur, hg, hs, _⟩ := h.row
  constructor
  · rw [cell_of_row w g j cur 41 (0, 0) hg, Array.getElem?_eq_getElem (by omega)]; rfl
  · simp [World.frozen?, hg]
theorem mV_set (l : List Mb) (q : Nat) (x : Mb) : mV (l.set q x) = ((mV l).set (q * 2) (.int .i64 x.1)).set (q * 2 + 1) (.int .i64 x.2) := by
  induction l generalizing q with
  | nil => simp [mV]
  | cons a r ih =>
    cases q with
    | zero => rw [List.set_cons_zero, mV_cons, mV_cons]; rfl
    | succ q => rw [List.set_cons_succ, mV_cons, mV_cons, ih, show (q + 1) * 2 = q * 2 + 1 + 1 by omega]; rfl
theorem Own.put {B n g c : Nat} {w : World} {l : List Mb} (h : Own B w (.slice (some ⟨g, 0, none⟩) n c) n l) (q : Nat) (x : Mb) :
    Own B ((w.setCell ⟨g, q * 2, none⟩ (.int .i64 x.1)).setCell ⟨g, q * 2 + 1, none⟩ (.int .i64 x.2)) (.slice (some ⟨g, 0, none⟩) n c) n (l.set q x) := by
  have h1 := World.ownsRow.stored h (q * 2) (.int .i64 x.1)
  have h2 := World.ownsRow.stored h1.1 (q * 2 + 1) (.int .i64 x.2)
  unfold Own
  rw [mV_set]
  exact h2.1
def zerosM (n : Nat) : List Value := (Builtin.zeroCells #[.int .i64 0, .int .i64 0] n).toList
theorem zerosM_len (n : Nat) : (zerosM n).length = n * 2 := by simp [zerosM, Builtin.zeroCells]
theorem zerosM_one (n : Nat) : ∀ v ∈ zerosM n, v.oneCell' = true := by
  intro v hv
  simp only [zerosM, Builtin.zeroCells, Array.toList_map, List.mem_map] at hv
  obtain ⟨i, _, rfl⟩ := hv
  have h : i % 2 = 0 ∨ i % 2 = 1 := by omega
  show (#[Value.int .i64 0, .int .i64 0][i % 2]!).oneCell' = true
  rcases h with e | e <;> rw [e] <;> rfl
theorem run_clear_m (w : World) (g o n c : Nat) (ty : TypeId) (cur : Array Value) (hg : w.heap[g]? = some (.cells cur 41 (0, 0))) (hf : o + n * 2 ≤ cur.size) :
    (Builtin.clear_ #[22] ty #[.slice (some ⟨g, o, none⟩) n c]).run Try.prog w = .ok (.tuple #[]) (w.setRow g (cur.toList.take o ++ zerosM n ++ cur.toList.drop (o + n * 2)).toArray) := by
  have hst := run_storeCells_at Try.prog g o 41 (zerosM n) 0 cur w hg (by rw [zerosM_len]; omega) (zerosM_one n)
  rw [zerosM_len, Nat.add_zero] at hst
  cases n with
  | zero =>
    have e : zerosM 0 = [] := List.eq_nil_of_length_eq_zero (by rw [zerosM_len])
    rw [e]
    simp [Builtin.clear_, run_underlying Try.underlying22, setRow_self w g cur 41 (0, 0) hg]
  | succ m =>
    have e : (Builtin.zeroCells (Value.agg #[.int .i64 0, .int .i64 0]).cells (m + 1)).toList = zerosM (m + 1) := rfl
    have ez : ∀ w, (zeroValue 41).run Try.prog w = .ok (.agg #[.int .i64 0, .int .i64 0]) w := fun w => by kernel_rfl
    simp only [List.append_assoc] at hst
    simp [Builtin.clear_, run_underlying Try.underlying22, ez, e, hst]
theorem Own.cut {B n g c i : Nat} {w : World} {l : List Mb} {cur : Array Value} (h : Own B w (.slice (some ⟨g, 0, none⟩) n c) n l) (hg : w.heap[g]? = some (.cells cur 41 (0, 0))) (hi : i ≤ n) :
    Own B (w.setRow g (cur.toList.take (i * 2) ++ zerosM (n - i) ++ cur.toList.drop (i * 2 + (n - i) * 2)).toArray) (.slice (some ⟨g, 0, none⟩) i c) i (l.take i) := by
  obtain ⟨cur', hg', hs, ht, hn, hc, hB⟩ := h.row
  rw [hg] at hg'
  obtain rfl : cur = cur' := by simpa using hg'
  have hl := h.len
  refine Own.of_row hB (setRow_heap w g cur _ 41 _ hg) ?_ (by omega) hc (by rw [List.length_take]; omega) ?_
  · simp [zerosM_len]; omega
  · rw [mV_take, ← ht, List.take_take, show min (i * 2) (n * 2) = i * 2 by omega]
    simp only [List.append_assoc]
    rw [List.take_append_of_le_length (by simp; omega)]
    exact List.take_of_length_le (by simp; omega)

/-- The names that go, in memory. -/
def NsM (T : Nat) (w : World) (gb : Nat) (ns : List Int) : Prop :=
  ∃ W0 : World, W0.heap.size ≤ T ∧ Below T W0 w ∧ ∃ b m d, BoxL W0 gb [.slice b m d] ∧ Reads W0 b (iV ns) ∧ ns.length = m ∧ m ≤ 20000
theorem NsM.keep {T gb : Nat} {w w' : World} {ns : List Int} (h : NsM T w gb ns) (hb : Below T w w') : NsM T w' gb ns := by
  obtain ⟨W0, h1, h2, h3⟩ := h
  exact ⟨W0, h1, h2.trans hb, h3⟩

set_option maxRecDepth 100000 in
set_option maxHeartbeats 1000000 in
/-- Does this one go? -/
theorem goes_any (T gb : Nat) (ns : List Int) (n k : Int) (w : World) (hN : NsM T w gb ns) :
    Calls Try.prog 28 #[.agg #[.int .i64 n, .int .i64 k], .pointer (some ⟨gb, 0, none⟩)] w fun e w' => e = .returned (.bool (inI ns n)) ∧ Below w.heap.size w w' := by
  have HB := hide (below_new w (.cells #[.int .i64 n, .int .i64 k] 41))
  obtain ⟨W0, h1, h2, b, m, d, hx, hr, hm, hml⟩ := hN
  have hb0 : Below W0.heap.size W0 w := h2.mono h1
  have hx' := hx.below hb0
  have y0 : w.cell? ⟨gb, 0, none⟩ = some (.slice b m d) := (hx'.2 0 (by simp)).1
  have y1 := keep_cell y0 HB.out
  obtain ⟨V, hV⟩ : ∃ V, V = w.alloc (.cells #[.int .i64 n, .int .i64 k] 41) := ⟨_, rfl⟩
  rw [← hV] at HB y1
  have C29 := hide (containsI_any ns n b m d V hm hml ((hr.below hb0).below HB.out))
  have HV := hide hV
  rw [hV] at y1
  clear hV hx hr hx' h2 hb0
  go_enter Try.func28, Try.ntmps28
  go_wp2_with (go_at_call 29; go_must (rw [← HV.out]; (with_reducible refine C29.out.mono ?_); rintro e w1 ⟨rfl, hw1⟩; subst hw1))
  go_ret
  exact ⟨rfl, HB.out⟩
end Go.Proofs.Ythjkfpcbbjmclaa
