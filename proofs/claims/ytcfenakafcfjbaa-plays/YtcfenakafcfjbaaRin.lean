/- The document's In. -/
import Derived.Test.YtcfenakafcfjbaaRou
namespace Go.Proofs.Ytcfenakafcfjbaa
open Go.RowKit Go.ChangeShapes Go.WideShapes Go.ChangeAt Go.Deep Go.Maps Go.Sort

set_option maxRecDepth 100000 in
set_option maxHeartbeats 2000000 in
theorem rin_bad (w : World) (rb : Nat) (x life now : Int) (hq : (okT now && okT life) = false) :
    Calls Try.prog 14 #[.pointer (some ⟨rb, 0, none⟩), .int .i64 x, .int .i64 life, .int .i64 now] w fun r w' => r = .returned (.bool false) ∧ w' = w := by
  have C1 := hide (when_any now w)
  have C2 := hide (when_any life w)
  have HQ := hide hq
  generalize okT now = q1 at C1 HQ
  generalize okT life = q2 at C2 HQ
  clear hq
  cases q1
  · clear HQ
    go_enter Try.func14, Try.ntmps14
    go_wp2_with (go_at_call 23; ((with_reducible refine C1.out.mono ?_); rintro e w1 ⟨rfl, hw1⟩; subst hw1))
    go_ret
    exact ⟨rfl, rfl⟩
  · obtain rfl : q2 = false := by have := HQ.out; simpa using this
    clear HQ
    go_enter Try.func14, Try.ntmps14
    go_wp2_with (first
      | (go_at_call 23; ((with_reducible refine C1.out.mono ?_); rintro e w1 ⟨rfl, hw1⟩; subst hw1))
      | (go_at_call 23; ((with_reducible refine C2.out.mono ?_); rintro e w1 ⟨rfl, hw1⟩; subst hw1)))
    go_ret
    exact ⟨rfl, rfl⟩

set_option maxRecDepth 100000 in
set_option maxHeartbeats 2000000 in
theorem rin_no {E : Cl} {w : World} {rb : Nat} {wt : Int} {S : List Wd} (h : RbM E w rb wt S) (hS : S.length ≤ 100000) (x life now : Int) (hq1 : okT now = true) (hq2 : okT life = true) {k : Nat} {e : Wd} (hk : AtP S x k e) (hq : (e.inn || decide (life ≤ e.mo)) = true) :
    Calls Try.prog 14 #[.pointer (some ⟨rb, 0, none⟩), .int .i64 x, .int .i64 life, .int .i64 now] w fun r w' => r = .returned (.bool false) ∧ w' = w := by
  have C1 := hide (when_any now w)
  have C2 := hide (when_any life w)
  rw [hq1] at C1
  rw [hq2] at C2
  have C21 := hide (find_any h hS x k hk.pos)
  obtain ⟨g, n, c, hkn, hg, c1, y0, y1, y2, y3, y4, y5, _⟩ := h.cells hk
  have hk1 : (k : Int) ≥ 0 := by omega
  have hk2 : (k : Int) < (n : Int) := by omega
  have HQ := hide hq
  generalize e.mo = mo at y3 HQ
  generalize e.inn = q at y4 HQ
  clear h hk y0 y1 y2 hq hq1 hq2
  cases q
  · have hle : life ≤ mo := by have := HQ.out; simpa using this
    clear HQ
    go_enter Try.func14, Try.ntmps14
    go_wp2_with (first
      | (go_at_call 21; ((with_reducible refine C21.out.mono ?_); rintro e w1 ⟨rfl, hw1⟩; subst hw1))
      | (go_at_call 23; ((with_reducible refine C1.out.mono ?_); rintro e w1 ⟨rfl, hw1⟩; subst hw1))
      | (go_at_call 23; ((with_reducible refine C2.out.mono ?_); rintro e w1 ⟨rfl, hw1⟩; subst hw1)))
    go_ret
    exact ⟨rfl, rfl⟩
  · clear HQ
    go_enter Try.func14, Try.ntmps14
    go_wp2_with (first
      | (go_at_call 21; ((with_reducible refine C21.out.mono ?_); rintro e w1 ⟨rfl, hw1⟩; subst hw1))
      | (go_at_call 23; ((with_reducible refine C1.out.mono ?_); rintro e w1 ⟨rfl, hw1⟩; subst hw1))
      | (go_at_call 23; ((with_reducible refine C2.out.mono ?_); rintro e w1 ⟨rfl, hw1⟩; subst hw1)))
    go_ret
    exact ⟨rfl, rfl⟩

theorem news_new (w : World) (xs : List Value) (t : TypeId) : ∀ j u, xs[j]? = some u → (w.alloc (.cells xs.toArray t)).cell? ((⟨w.heap.size, 0, none⟩ : Addr).add j) = some u := by
  intro j u hu
  rw [add_none, Nat.zero_add]
  obtain ⟨h1, h2⟩ := List.getElem?_eq_some_iff.1 hu
  have := ((BoxL.new w xs t).2 j h1).1
  rw [h2] at this
  exact this
/-- All five cells are written. -/
def put5 (w : World) (g o : Nat) (x : Wd) : World := ((((w.setCell ⟨g, o, none⟩ (.int .i64 x.nd)).setCell ⟨g, o + 1, none⟩ (.int .i64 x.lf)).setCell ⟨g, o + 2, none⟩ (.int .i64 x.at')).setCell ⟨g, o + 3, none⟩ (.int .i64 x.mo)).setCell ⟨g, o + 4, none⟩ (.bool x.inn)
theorem RowD.put5 {w : World} {b n c k : Nat} {S : List Wd} (h : RowD w (some ⟨b, 0, none⟩) n c S) (hk : k < S.length) (x : Wd) : RowD (put5 w b (k * 5) x) (some ⟨b, 0, none⟩) n c (S.set k x) := by
  have h0 := h.put hk 0 (by omega) (.int .i64 x.nd) { S[k] with nd := x.nd } (by simp [Wd.cs])
  have h1 := h0.put (k := k) (by simpa using hk) 1 (by omega) (.int .i64 x.lf) { S[k] with nd := x.nd, lf := x.lf } (by simp [Wd.cs])
  have h2 := h1.put (k := k) (by simpa using hk) 2 (by omega) (.int .i64 x.at') { S[k] with nd := x.nd, lf := x.lf, at' := x.at' } (by simp [Wd.cs])
  have h3 := h2.put (k := k) (by simpa using hk) 3 (by omega) (.int .i64 x.mo) { S[k] with nd := x.nd, lf := x.lf, at' := x.at', mo := x.mo } (by simp [Wd.cs])
  have h4 := h3.put (k := k) (by simpa using hk) 4 (by omega) (.bool x.inn) x (by simp [Wd.cs])
  simp only [List.set_set, Nat.add_zero] at h4
  exact h4
theorem put5_grown (w : World) (g o : Nat) (x : Wd) : w.grownBy (put5 w g o x) (some g) :=
  ((((grown_setCell w g o (.int .i64 x.nd)).trans (grown_setCell _ g (o + 1) _)).trans (grown_setCell _ g (o + 2) _)).trans (grown_setCell _ g (o + 3) _)).trans (grown_setCell _ g (o + 4) _)
theorem RbM.put5 {E : Cl} {w : World} {rb : Nat} {wt : Int} {S : List Wd} (h : RbM E w rb wt S) {k : Nat} (hk : k < S.length) (x : Wd) :
    ∃ g n c, k < n ∧ n = S.length ∧ w.cell? ⟨rb, 1, none⟩ = some (.slice (some ⟨g, 0, none⟩) n c) ∧ (∀ j, j < 5 → ∃ u, w.cell? ⟨g, k * 5 + j, none⟩ = some u) ∧ (∀ j, w.frozen? ⟨g, j, none⟩ = false) ∧ RbM E (put5 w g (k * 5) x) rb wt (S.set k x) ∧ Stp E E w (put5 w g (k * 5) x) := by
  obtain ⟨h1, h2, hw, a, n, c, hB, hR, h5⟩ := h
  obtain ⟨g, rfl, hg⟩ := hR.isAt (by have := hR.1; omega)
  obtain ⟨y0, y1, y2, y3, y4, y5⟩ := hR.at hk
  obtain ⟨g1, g2⟩ := h5 g rfl
  have hgr := put5_grown w g (k * 5) x
  refine ⟨g, n, c, by have := hR.1; omega, hR.1.symm, (hB.at (o := 1) rfl).1, fun j hj => ?_, y5, ⟨fun q hq => Nat.lt_of_lt_of_le (h1 q hq) hgr.size, h2, hw, _, n, c, hB.grown hgr (fun e => g2 e.symm), hR.put5 hk x, h5⟩, ⟨Kp.ofG hgr (fun q e => by cases e; exact g1), fun _ _ => Iff.rfl⟩⟩
  match j, hj with
  | 0, _ => exact ⟨_, y0⟩
  | 1, _ => exact ⟨_, y1⟩
  | 2, _ => exact ⟨_, y2⟩
  | 3, _ => exact ⟨_, y3⟩
  | 4, _ => exact ⟨_, y4⟩

set_option maxRecDepth 100000 in
set_option maxHeartbeats 2000000 in
theorem rin_put {E : Cl} {w : World} {rb : Nat} {wt : Int} {S : List Wd} (h : RbM E w rb wt S) (hS : S.length ≤ 100000) (x life now : Int) (hq1 : okT now = true) (hq2 : okT life = true) {k : Nat} {e : Wd} (hk : AtP S x k e) (hi : e.inn = false) (hl : ¬ life ≤ e.mo) :
    Calls Try.prog 14 #[.pointer (some ⟨rb, 0, none⟩), .int .i64 x, .int .i64 life, .int .i64 now] w fun r w' => r = .returned (.bool true) ∧ RbM E w' rb wt (S.set k ⟨x, life, now, life, true⟩) ∧ Stp E E w w' := by
  have C1 := hide (when_any now w)
  have C2 := hide (when_any life w)
  rw [hq1] at C1
  rw [hq2] at C2
  have C21 := hide (find_any h hS x k hk.pos)
  obtain ⟨g, n, c, hkn, hg, c1, _, _, _, y3, y4, _, _⟩ := h.cells hk
  obtain ⟨g', n', c', _, _, c1', hu, hf, hM, hSt⟩ := h.put5 hk.1 ⟨x, life, now, life, true⟩
  rw [c1] at c1'
  simp only [Option.some.injEq, Value.slice.injEq, Addr.mk.injEq, and_true] at c1'
  obtain ⟨rfl, rfl, rfl⟩ := c1'
  rw [hi] at y4
  obtain ⟨u0, z0⟩ := hu 0 (by omega)
  obtain ⟨u1, z1⟩ := hu 1 (by omega)
  obtain ⟨u2, z2⟩ := hu 2 (by omega)
  obtain ⟨u3, z3⟩ := hu 3 (by omega)
  obtain ⟨u4, z4⟩ := hu 4 (by omega)
  rw [Nat.add_zero] at z0
  have f0 := hf (k * 5)
  have f1 := hf (k * 5 + 1)
  have f2 := hf (k * 5 + 2)
  have f3 := hf (k * 5 + 3)
  have f4 := hf (k * 5 + 4)
  have hk1 : (k : Int) ≥ 0 := by omega
  have hk3 : ¬ (k : Int) < 0 := by omega
  have hk2 : (k : Int) < (n : Int) := by omega
  generalize e.mo = mo at y3 hl
  have HM := hide (And.intro hM hSt)
  clear h hk hM hSt hu hf hq1 hq2 hi z3 z4 u3 u4
  go_enter Try.func14, Try.ntmps14
  go_upto_region 9 with (first
    | (go_at_call 21; ((with_reducible refine C21.out.mono ?_); rintro e w1 ⟨rfl, hw1⟩; subst hw1))
    | (go_at_call 23; ((with_reducible refine C1.out.mono ?_); rintro e w1 ⟨rfl, hw1⟩; subst hw1))
    | (go_at_call 23; ((with_reducible refine C2.out.mono ?_); rintro e w1 ⟨rfl, hw1⟩; subst hw1)))
  go_wp2
  go_ret
  exact ⟨rfl, HM.out.1, HM.out.2⟩

theorem Try.info49 : (Try.prog.info? 49).map (fun i => (i.zero, i.size, i.bytes)) = some (some (.agg #[.int .i64 0, .int .i64 0, .int .i64 0, .int .i64 0, .bool false]), 5, 40) := by kernel_rfl
/-- A row that has grown is stored. -/
theorem RbM.grow {E : Cl} {w w1 w2 : World} {rb : Nat} {wt : Int} {S : List Wd} {a : Option Addr} {n c : Nat} (h : RbM E w rb wt S) (hc : w.cell? ⟨rb, 1, none⟩ = some (.slice a n c)) (hb : Below w.heap.size w w1) (e : Wd) {g cap : Nat}
    (ho : w2.ownsRow 0 49 5 (.slice (some ⟨g, 0, none⟩) (n + 1) cap) (n + 1) (wdV S ++ e.cs)) (hg : w1.grownBy w2 (Value.slice a n c).ownBlock) (hat : (Value.slice a n c).ownBlock = some g ∨ g = w1.heap.size) (hlt : g < w2.heap.size) :
    RbM (fun k => E k ∨ k = g) (w2.setCell ⟨rb, 1, none⟩ (.slice (some ⟨g, 0, none⟩) (n + 1) cap)) rb wt (S ++ [e]) ∧ Stp E (fun k => E k ∨ k = g) w (w2.setCell ⟨rb, 1, none⟩ (.slice (some ⟨g, 0, none⟩) (n + 1) cap)) ∧ w2.cell? ⟨rb, 1, none⟩ = some (.slice a n c) ∧ w2.frozen? ⟨rb, 1, none⟩ = false := by
  obtain ⟨h1, h2, hw, a', n', c', hB, hR, h5⟩ := h
  have hc' := (hB.at (o := 1) rfl).1
  rw [hc] at hc'
  simp only [Option.some.injEq, Value.slice.injEq] at hc'
  obtain ⟨rfl, rfl, rfl⟩ := hc'
  have hown : ∀ k, (Value.slice a n c).ownBlock = some k → E k ∧ k ≠ rb := fun k hk => h5 k (by cases a with | none => cases hk | some ad => simpa [Value.ownBlock] using hk)
  have hrb : some rb ≠ (Value.slice a n c).ownBlock := fun e => (hown rb e.symm).2 rfl
  have hB1 := hB.below hb
  have hB2 : BoxL w2 rb [.int .i64 wt, .slice a n c] := hB1.keep hg.size (hg.block rb hB1.1 hrb)
  have hgne : g ≠ rb := by
    rcases hat with hat | hat
    · exact (hown g hat).2
    · have := hB1.1; omega
  have hp := hB2.put 1 (.slice (some ⟨g, 0, none⟩) (n + 1) cap)
  simp only [List.set_cons_succ, List.set_cons_zero] at hp
  have hk : Kp E w1 w2 := Kp.ofG hg (fun k e => (hown k e).1)
  have hk2 : Kp E w w2 := (Kp.ofB hb).trans hk
  have hk3 : Kp E w2 (w2.setCell ⟨rb, 1, none⟩ (.slice (some ⟨g, 0, none⟩) (n + 1) cap)) := Kp.ofG (grown_setCell w2 rb 1 _) (fun k e => by cases e; exact h2)
  refine ⟨⟨fun k hk' => ?_, .inl h2, hw, _, n + 1, cap, hp, ⟨by simp [hR.1], ?_⟩, fun k e => ?_⟩, ⟨hk2.trans hk3, fun k hk' => ⟨?_, .inl⟩⟩, (hB2.at (o := 1) rfl).1, (hB2.at (o := 1) rfl).2⟩
  · have := (hk2.trans hk3).size
    rcases hk' with hk' | rfl
    · have := h1 k hk'; omega
    · have := hk3.size; omega
  · have e1 : wdV S ++ e.cs = wdV (S ++ [e]) := by rw [wdV_app]; simp [wdV]
    rw [e1] at ho
    exact own_keepA ho (fun k e => (grown_setCell w2 rb 1 _).block k (by cases e; exact hlt) (by cases e; simpa using hgne))
  · simp at e
    subst e
    exact ⟨.inr rfl, hgne⟩
  · rintro (h | rfl)
    · exact h
    · rcases hat with hat | hat
      · exact (hown _ hat).1
      · have := hb.size; omega

set_option maxRecDepth 100000 in
set_option maxHeartbeats 2000000 in
theorem rin_new {E : Cl} {w : World} {rb : Nat} {wt : Int} {S : List Wd} (h : RbM E w rb wt S) (hS : S.length ≤ 100000) (x life now : Int) (hq1 : okT now = true) (hq2 : okT life = true) (hx : NoP S x) :
    Calls Try.prog 14 #[.pointer (some ⟨rb, 0, none⟩), .int .i64 x, .int .i64 life, .int .i64 now] w fun r w' => r = .returned (.bool true) ∧ ∃ E', RbM E' w' rb wt (S ++ [⟨x, life, now, life, true⟩]) ∧ Stp E E' w w' := by
  have C1 := hide (when_any now w)
  have C2 := hide (when_any life w)
  rw [hq1] at C1
  rw [hq2] at C2
  have C21 := hide (find_any h hS x (-1) hx.pos)
  have HM := hide h
  obtain ⟨h1, h2, hw, a, n, c, hB, hR, h5⟩ := h
  obtain ⟨c1, f1⟩ := hB.at (o := 1) rfl
  have HL := hide hR.1
  have HC := hide c1
  have hn : n ≤ 100000 := by rw [← hR.1]; exact hS
  have hb1 := below_new w (.cells #[.int .i64 x, .int .i64 0, .int .i64 0, .int .i64 0, .bool false] 49)
  have HB1 := hide hb1
  have HO := hide (show (w.alloc (.cells #[.int .i64 x, .int .i64 0, .int .i64 0, .int .i64 0, .bool false] 49)).ownsRow 0 49 5 (.slice a n c) n (wdV S) from hR.2.alloc _)
  have hnw : ∀ j u, ([Value.int .i64 x, .int .i64 0, .int .i64 0, .int .i64 0, .bool false])[j]? = some u → (w.alloc (.cells #[.int .i64 x, .int .i64 0, .int .i64 0, .int .i64 0, .bool false] 49)).cell? ((⟨w.heap.size, 0, none⟩ : Addr).add j) = some u := news_new w [.int .i64 x, .int .i64 0, .int .i64 0, .int .i64 0, .bool false] 49
  have HNW := hide hnw
  have HON := hide (show ∀ u ∈ [Value.int .i64 x, .int .i64 0, .int .i64 0, .int .i64 0, .bool false], u.oneCell' = true from fun u hu => wdV_one [⟨x, 0, 0, 0, false⟩] u hu)
  obtain ⟨i0, hi, hz0, hz1, hz2⟩ := info_parts Try.info49
  have HI := hide (And.intro hi (And.intro hz0 (And.intro hz1 hz2)))
  clear h1 h5 hB hR hS hq1 hq2 hx hb1 hnw hi hz0 hz1 hz2
  go_enter Try.func14, Try.ntmps14
  go_upto_region 7 with (first
    | (go_at_call 21; ((with_reducible refine C21.out.mono ?_); rintro e w1 ⟨rfl, hw1⟩; subst hw1))
    | (go_at_call 23; ((with_reducible refine C1.out.mono ?_); rintro e w1 ⟨rfl, hw1⟩; subst hw1))
    | (go_at_call 23; ((with_reducible refine C2.out.mono ?_); rintro e w1 ⟨rfl, hw1⟩; subst hw1)))
  go_wp2_with (at_builtin; go_must (refine wpList_append_lies _ rfl (.tmp 51) (.tmp 54) 44 rfl 0 49 i0 (.agg #[.int .i64 0, .int .i64 0, .int .i64 0, .int .i64 0, .bool false]) 5 40 Try.underlying44 HI.out.1 HI.out.2.1 HI.out.2.2.1 HI.out.2.2.2 rfl (by omega) (.slice a n c) n (wdV S) rfl HO.out ⟨_, 0, none⟩ 1 1 [.int .i64 x, .int .i64 0, .int .i64 0, .int .i64 0, .bool false] rfl rfl HNW.out HON.out (by omega) (by unfold maxLen; omega) (by omega) (Nat.zero_le _) _ rfl ?_; intro g cap w2 ho2 hg2 hat2 hlt2; refine Hid.out ?_))
  refine Lib.hid ?_
  obtain ⟨hM2, hS2, d1, e1⟩ := RbM.grow HM.out HC.out HB1.out ⟨x, 0, 0, 0, false⟩ ho2 hg2 hat2 hlt2
  have hSn : S.length = n := HL.out
  obtain ⟨g', n', c', _, hn', z1, hu, hf, hM3, hS3⟩ := hM2.put5 (k := n) (by simp [hSn]) ⟨x, life, now, life, true⟩
  have z1' := z1
  rw [World.cell?_setCell_same _ _ _ d1] at z1
  simp only [Option.some.injEq, Value.slice.injEq, Addr.mk.injEq, and_true] at z1
  obtain ⟨rfl, rfl, rfl⟩ := z1
  obtain ⟨W, hW⟩ : ∃ W, W = w2.setCell ⟨rb, 1, none⟩ (.slice (some ⟨g, 0, none⟩) (n + 1) cap) := ⟨_, rfl⟩
  rw [← hW] at z1' hu hf hM3 hS3 hS2
  have HF := hide (show RbM (fun k => E k ∨ k = g) (put5 W g (n * 5) ⟨x, life, now, life, true⟩) rb wt (S ++ [⟨x, life, now, life, true⟩]) ∧ Stp E (fun k => E k ∨ k = g) w1 (put5 W g (n * 5) ⟨x, life, now, life, true⟩) from ⟨by
    have e : (S ++ [(⟨x, 0, 0, 0, false⟩ : Wd)]).set n (⟨x, life, now, life, true⟩ : Wd) = S ++ [(⟨x, life, now, life, true⟩ : Wd)] := by
      rw [← hSn, List.set_append_right _ _ (Nat.le_refl _)]; simp
    rw [← e]; exact hM3, hS2.trans hS3⟩)
  obtain ⟨u0, y0⟩ := hu 0 (by omega)
  obtain ⟨u1, y1⟩ := hu 1 (by omega)
  obtain ⟨u2, y2⟩ := hu 2 (by omega)
  obtain ⟨u3, y3⟩ := hu 3 (by omega)
  obtain ⟨u4, y4⟩ := hu 4 (by omega)
  rw [Nat.add_zero] at y0
  have f0 := hf (n * 5)
  have f1 := hf (n * 5 + 1)
  have f2 := hf (n * 5 + 2)
  have f3 := hf (n * 5 + 3)
  have f4 := hf (n * 5 + 4)
  have HW := hide hW
  have q1 : wrap64 (((n + 1 : Nat) : Int) - 1) = (n : Int) := by unfold wrap64; omega
  have q2 : wrap64 ((n : Int) + 1 - 1) = (n : Int) := by unfold wrap64; omega
  have q3 : wrap64 (n : Int) = (n : Int) := by unfold wrap64; omega
  have q4 : (n : Int) < ((n + 1 : Nat) : Int) := by omega
  clear hM2 hS2 hM3 hS3 hu hf hW ho2 hg2 hat2 hlt2 hSn hn'
  go_upto_region 8 with fail
  rw [← HW.out]
  go_wp2
  go_ret
  exact ⟨rfl, _, HF.out.1, HF.out.2⟩
end Go.Proofs.Ytcfenakafcfjbaa
