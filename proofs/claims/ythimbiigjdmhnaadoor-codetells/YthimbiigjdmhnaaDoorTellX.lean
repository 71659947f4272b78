/- CodeTells: the arguments opened; all inputs. -/
import Derived.Test.YthimbiigjdmhnaaDoorTellW
import Derived.Test.YthimbiigjdmhnaaDoorLaid
import Derived.Deep.Slices
namespace Go.Proofs.YthimbiigjdmhnaaDoor
open Go.RowKit Go.ChangeShapes Go.WideShapes Go.ChangeAt Go.Deep
namespace codeTells

theorem choose_list {p : Nat → Int → Prop} : ∀ n : Nat, (∀ i, i < n → ∃ x, p i x) → ∃ l : List Int, l.length = n ∧ ∀ i x, l[i]? = some x → p i x
  | 0, _ => ⟨[], rfl, fun i x h => by simp at h⟩
  | n + 1, h => by
    obtain ⟨l, hl, hp⟩ := choose_list n (fun i hi => h i (by omega))
    obtain ⟨x, hx⟩ := h n (by omega)
    refine ⟨l ++ [x], by simp [hl], fun i y hy => ?_⟩
    rcases Nat.lt_or_ge i l.length with hi | hi
    · rw [List.getElem?_append_left hi] at hy
      exact hp i y hy
    · rw [List.getElem?_append_right hi] at hy
      have : i - l.length = 0 := by
        rcases Nat.eq_zero_or_pos (i - l.length) with h | h
        · exact h
        · rw [List.getElem?_eq_none (by simp; omega)] at hy; cases hy
      rw [this] at hy
      have hin : i = n := by omega
      simp at hy
      subst hy; subst hin
      exact hx

theorem arg_ins {H : Type} {enc : TypeId × Value → H} {W : World} {cs : Array Value} {d : DataW H} {p : List MemPlace} (h : DataW.Trod enc Tryd.prog W 0 (fun _ => true) true 23 (.agg cs) d p) :
    ∃ x y : Int, cs = #[.int .i64 x, .int .i64 y] := by
  obtain ⟨fuel, hf⟩ := h
  have c3 : Tryd.prog.cellsOf 3 = 1 := by kernel_rfl
  have c23 : Tryd.prog.cellsOf 23 = 2 := by kernel_rfl
  obtain ⟨y0, y1, n, _, hl, e0, e1⟩ := trod_struct2 Tryd.underlying23 hf
  simp only [c3, c23] at e0 e1 hl
  obtain ⟨x, i0, _⟩ := DataW.trod_int Tryd.underlying3 e0
  obtain ⟨y, i1, _⟩ := DataW.trod_int Tryd.underlying3 e1
  refine ⟨x, y, ?_⟩
  obtain ⟨l⟩ := cs
  simp only [Value.cells] at i0 i1 hl
  match l, hl with
  | [a, b], _ =>
    simp at i0 i1
    rw [i0, i1]

theorem arg_funcs {H : Type} {enc : TypeId × Value → H} {W : World} {a : Option Addr} {len cap : Nat} {d : DataW H} {p : List MemPlace} (h : DataW.Trod enc Tryd.prog W 0 (fun _ => true) true 24 (.slice a len cap) d p) :
    ∃ ns : List Int, ns.length = len ∧ FReads W a ns := by
  obtain ⟨fuel, hf⟩ := h
  have c3 : Tryd.prog.cellsOf 3 = 1 := by kernel_rfl
  have c40 : Tryd.prog.cellsOf 40 = 4 := by kernel_rfl
  rcases open_slice Tryd.underlying24 hf with ⟨hcs, _⟩ | ⟨x, l, c, m, n, D, Pl, hcs, _, hl, hm, hmm, _, hx⟩
  · simp [Value.cells] at hcs
    obtain ⟨rfl, rfl, rfl⟩ := hcs
    exact ⟨[], rfl, .inl rfl⟩
  · simp [Value.cells] at hcs
    obtain ⟨rfl, rfl, rfl⟩ := hcs
    simp only [if_true] at hmm
    subst hmm
    have key : ∀ i, i < len → ∃ z : Int, ∀ b off, x = ⟨b, off, none⟩ → W.cell? ⟨b, off + i * 4 + 1, none⟩ = some (.int .i64 z) := fun i hi => by
      obtain ⟨cs', hc, ht⟩ := hx i (by omega)
      obtain ⟨y0, y1, y2, y3, k, _, hlen, e0, e1, e2, e3⟩ := trod_struct4 Tryd.underlying40 ht
      simp only [c3] at e1
      obtain ⟨z, i1, _⟩ := DataW.trod_int Tryd.underlying3 e1
      have h1 : cs'[1]? = some (.int .i64 z) := by
        have : ((cs'.drop 1).take 1)[0]? = some (.int .i64 z) := by rw [i1]; rfl
        simpa using this
      refine ⟨z, fun b off e => ?_⟩
      subst e
      rw [c40] at hc
      have := (World.cells?_some hc).2.2 1 (by omega)
      rw [add_none, add_none, h1] at this
      exact this
    have spot : 0 < len → ∃ b off, x = ⟨b, off, none⟩ := fun h0 => by
      obtain ⟨cs', hc, ht⟩ := hx 0 (by omega)
      rw [c40] at hc
      obtain ⟨_, hl4, hcell⟩ := World.cells?_some hc
      have h00 := hcell 0 (by omega)
      rw [List.getElem?_eq_getElem (by omega)] at h00
      obtain ⟨b, off, sp⟩ := x
      have : sp = none := by simpa [Addr.add] using World.cell?_spot h00
      subst this
      exact ⟨b, off, rfl⟩
    obtain ⟨ns, h1, h2⟩ := choose_list len key
    refine ⟨ns, h1, ?_⟩
    by_cases h0 : len = 0
    · left
      subst h0
      exact List.eq_nil_of_length_eq_zero h1
    · obtain ⟨b, off, rfl⟩ := spot (by omega)
      exact .inr ⟨b, off, rfl, fun j z hz => h2 j z hz b off rfl⟩

set_option maxRecDepth 100000 in
set_option maxHeartbeats 1000000 in
theorem early (op n : Int) (a : Option Addr) (len cap : Nat) (p : Int) (s : ByteArray) (w : World) (hT : Tab w) (h : 100 < len ∨ 1099511627776 < p ∨ 1000 < s.size) :
    Calls Tryd.prog 3 #[.agg #[.int .i64 op, .int .i64 n], .slice a len cap, .int .i64 p, .string s] w fun e w' => e = .returned (.bool true) ∧ Below w.heap.size w w' := by
  have hbA := alloc_below w (.cells #[.int .i64 op, .int .i64 n] 23)
  have A := alive_any _ (hT.below hbA)
  obtain h | h | h : (100 : Int) < (len : Int) ∨ ((len : Int) ≤ 100 ∧ 1099511627776 < p) ∨ ((len : Int) ≤ 100 ∧ p ≤ 1099511627776 ∧ (1000 : Int) < (s.size : Int)) := by omega
  · go_enter Tryd.func3, Tryd.ntmps3
    go_wp2_with (go_at_call 6; go_must (refine A.mono ?_; rintro e w1 ⟨rfl, hb1⟩))
    go_ret
    exact ⟨rfl, chain hbA hb1⟩
  · obtain ⟨h1, h2⟩ := h
    go_enter Tryd.func3, Tryd.ntmps3
    go_wp2_with (go_at_call 6; go_must (refine A.mono ?_; rintro e w1 ⟨rfl, hb1⟩))
    go_ret
    exact ⟨rfl, chain hbA hb1⟩
  · obtain ⟨h1, h2, h3⟩ := h
    go_enter Tryd.func3, Tryd.ntmps3
    go_wp2_with (go_at_call 6; go_must (refine A.mono ?_; rintro e w1 ⟨rfl, hb1⟩))
    go_ret
    exact ⟨rfl, chain hbA hb1⟩

theorem walk (op n : Int) (a : Option Addr) (len cap : Nat) (ns : List Int) (p : Int) (s : ByteArray) (w : World) (hT : Tab w) (hl : ns.length = len) (hr : FReads w a ns) :
    Calls Tryd.prog 3 #[.agg #[.int .i64 op, .int .i64 n], .slice a len cap, .int .i64 p, .string s] w fun e w' => e = .returned (.bool true) ∧ Below w.heap.size w w' := by
  by_cases h : 100 < len ∨ 1099511627776 < p ∨ 1000 < s.size
  · exact early op n a len cap p s w hT h
  · exact walk0 op n a len cap ns p s w hT hl hr (by omega) (by omega) (by omega)
end codeTells
end Go.Proofs.YthimbiigjdmhnaaDoor
