/- (*gleanerref10.Net).Deliver. -/
import Derived.Test.YtmjglgdihlomlaaRGon
import Derived.Test.YtmjglgdihlomlaaDel
namespace Go.Proofs.Ytmjglgdihlomlaa
open Go.RowKit Go.ChangeShapes Go.WideShapes Go.ChangeAt Go.Deep

/-- 'append(v, y...)' of parcels. -/
theorem append_p {w : World} {ops : Array Oper} {rest : List Oper} {o : Oper} {a : Act} {Q : Exit → Act → World → Prop} (hgd : o.guard = none) (s x : Operand)
    (ho : o.op = .call { callee := .builtin .append, args := #[s, x], argTypes := #[28, 28] })
    (base : Nat) (v : Value) (n : Nat) (xs : List Pm) (hs : a.eval s = v) (hown : w.ownsRow base 37 3 v n (cV xs))
    (ad : Option Addr) (m c : Nat) (ys : List Pm) (hx : a.eval x = .slice ad m c) (hnil : ad = none → m = 0 ∧ c = 0) (hl : ys.length = m) (hr : Reads w ad (cV ys))
    (hb : n + m ≤ 1000000) (hbase : base ≤ w.heap.size)
    (h : ∀ v' w', w'.ownsRow base 37 3 v' (n + m) (cV (xs ++ ys)) → w.grownBy w' v.ownBlock → wpList Try.prog ops Q rest (a.put o.dst v') w') :
    wpList Try.prog ops Q (o :: rest) a w := by
  obtain ⟨i0, hi, hz0, hz1, hz2⟩ := info_parts Try.info37
  cases ad with
  | none =>
    obtain ⟨rfl, rfl⟩ := hnil rfl
    have hy : ys = [] := List.eq_nil_of_length_eq_zero hl
    subst hy
    refine wpList_append_own_none hgd s x 28 ho base 37 i0 3 Try.underlying28 hi v n (cV xs) hs hown hx ?_
    exact h v w (by simpa using hown) ⟨rfl, rfl, rfl, Nat.le_refl _, fun _ _ _ => rfl⟩
  | some ad =>
    refine wpList_append_own _ hgd s x 28 ho base 37 i0 (.agg #[.int .i64 0, .int .i64 0, .slice none 0 0]) 3 40 Try.underlying28 hi hz0 hz1 hz2 rfl (by decide) v n (cV xs) hs hown ad m c (cV ys) hx (by rw [cV_len]; omega) ?_ (cV_one ys) (by unfold maxLen; omega) (by omega) hbase ?_
    · rcases hr with hr | ⟨b, off, e, hr⟩
      · rw [hr]; simp
      · simp at e
        subst e
        intro j u hu
        rw [add_none]; exact hr j u hu
    · intro v' w' h1 h2 _
      exact h v' w' (by rw [cV_app]; exact h1) h2
def atp (g off c k : Nat) : Addr := if c = k then ⟨g, off, none⟩ else ⟨g, off + k * 3, none⟩
theorem slice_fromP (w : World) (g off n c k : Nat) (hk : k ≤ n) : (Instr.slice 28 (.slice (some ⟨g, off, none⟩) n c) (some (.int .i64 (k : Int))) none none).run Try.prog w = .ok (.slice (some (atp g off c k)) (n - k) (c - k)) w := by
  simp [Instr.slice, run_underlying Try.underlying28, Instr.sliceBounds, run_sliceBound (P := Try.prog) w .i64 (k : Int) n .sliceB (by omega) (by omega)]
  unfold atp
  split <;> simp [add_none]
theorem cV_drop (l : List Pm) (k : Nat) : cV (l.drop k) = (cV l).drop (k * 3) := by
  induction k generalizing l with
  | zero => simp
  | succ k ih =>
    cases l with
    | nil => simp [cV]
    | cons a r => rw [List.drop_succ_cons, ih, show (k + 1) * 3 = k * 3 + 1 + 1 + 1 by omega]; simp [cV, Pm.cs]
theorem cV_take (l : List Pm) (k : Nat) : cV (l.take k) = (cV l).take (k * 3) := by
  induction k generalizing l with
  | zero => simp [cV]
  | succ k ih =>
    cases l with
    | nil => simp [cV]
    | cons a r =>
      rw [List.take_succ_cons, show (k + 1) * 3 = k * 3 + 1 + 1 + 1 by omega]
      have := ih r
      simp only [cV] at this
      simp [cV, Pm.cs, this]
theorem reads_fromP {w : World} {g off n c k : Nat} {l : List Pm} (h : Reads w (some ⟨g, off, none⟩) (cV l)) (hl : l.length = n) (hc : n ≤ c) : Reads w (some (atp g off c k)) (cV (l.drop k)) := by
  by_cases e : c = k
  · left
    rw [List.drop_eq_nil_of_le (by omega)]; rfl
  · rcases h with h | ⟨b, o, e1, h⟩
    · left; rw [cV_drop, h]; simp
    · simp only [Option.some.injEq, Addr.mk.injEq] at e1
      obtain ⟨rfl, rfl, _⟩ := e1
      right
      refine ⟨g, off + k * 3, by unfold atp; rw [if_neg e], fun j u hu => ?_⟩
      rw [cV_drop, List.getElem?_drop] at hu
      have := h _ u hu
      rwa [← Nat.add_assoc] at this
theorem reads_toP {w : World} {a : Option Addr} {k : Nat} {l : List Pm} (h : Reads w a (cV l)) : Reads w a (cV (l.take k)) := by
  rcases h with h | ⟨b, o, e1, h⟩
  · left; rw [cV_take, h]; simp
  · right
    refine ⟨b, o, e1, fun j u hu => h j u ?_⟩
    rw [cV_take, List.getElem?_take] at hu
    split at hu
    · exact hu
    · cases hu

def RDelYes (D : Nat → Prop) (w : World) (cb : Nat) (L : List Pc) (k : Nat) (x : Pc) (e : Ending) (w' : World) : Prop :=
  ∃ a n c, e = .returned (.tuple #[.agg #[.int .i64 x.1, .int .i64 x.2.1, .slice a n c], .bool true]) ∧ x.2.2.length = n ∧ (Byt x.2.2 ∧ (n ≤ c ∧ c ≤ maxLen) ∧ (a = none → n = 0 ∧ c = 0)) ∧ Reads w' a (bV x.2.2) ∧ NetR (Ex D w w') w' cb (L.eraseIdx k) ∧ Kp D w w'

set_option maxRecDepth 100000 in
set_option maxHeartbeats 1000000 in
theorem rdeliver_no (D : Nat → Prop) (w : World) (cb : Nat) (L : List Pc) (k : Int) (hN : NetR D w cb L) (hk : hasB L.length k = false) :
    Calls Try.prog 13 #[.pointer (some ⟨cb, 0, none⟩), .int .i64 k] w (DelNo w) := by
  obtain ⟨hx1, hx2, hx3⟩ := box1 w [.int .i64 0, .int .i64 0, .slice none 0 0] 37
  obtain ⟨V, hV⟩ : ∃ V, V = w.alloc (.cells #[.int .i64 0, .int .i64 0, .slice none 0 0] 37) := ⟨_, rfl⟩
  have HX := hide (show BoxL V w.heap.size [.int .i64 0, .int .i64 0, .slice none 0 0] by rw [hV]; exact hx1)
  have HB := hide (show Below w.heap.size w V by rw [hV]; exact hx2)
  obtain ⟨a, n, c, hcell, hn⟩ := (hN.below HB.out).head
  rw [hn] at hk
  have HV := hide hV
  obtain ⟨e0, e1, e2⟩ := HX.out.c3
  obtain ⟨g0, g1, g2⟩ := HX.out.f3
  have hki : k < 0 ∨ (n : Int) ≤ k := by simp [hasB] at hk; omega
  clear hx1 hx2 hx3 hV hN hk hn
  unfold DelNo
  have HF := hide (put3_box HX.out (.int .i64 0) (.int .i64 0) (.slice none 0 0))
  have HB3 := hide (put3_below (o := 0) HB.out (Nat.le_refl _) (.int .i64 0) (.int .i64 0) (.slice none 0 0))
  rcases hki with hki | hki
  · go_enter Try.func13, Try.ntmps13
    go_upto_region 1 with fail
    rw [← HV.out]
    go_wp2
    obtain ⟨X4, hX4⟩ : ∃ X4, X4 = put3 V w.heap.size 0 (.int .i64 0) (.int .i64 0) (.slice none 0 0) := ⟨_, rfl⟩
    rw [← hX4] at HF HB3
    unfold put3 at hX4
    rw [← hX4]
    clear hX4
    obtain ⟨x0, x1, x2⟩ := HF.out.c3
    exact bodyPost_ret (v := .tuple #[.agg #[.int .i64 0, .int .i64 0, .slice none 0 0], .bool false]) (by simp [results, Try.results13, go_sem, x0, x1, x2]) rfl ⟨rfl, HB3.out⟩
  · by_cases h0 : k < 0
    · exact absurd h0 (by omega)
    · go_enter Try.func13, Try.ntmps13
      go_upto_region 1 with fail
      rw [← HV.out]
      go_wp2
      obtain ⟨X4, hX4⟩ : ∃ X4, X4 = put3 V w.heap.size 0 (.int .i64 0) (.int .i64 0) (.slice none 0 0) := ⟨_, rfl⟩
      rw [← hX4] at HF HB3
      unfold put3 at hX4
      rw [← hX4]
      clear hX4
      obtain ⟨x0, x1, x2⟩ := HF.out.c3
      exact bodyPost_ret (v := .tuple #[.agg #[.int .i64 0, .int .i64 0, .slice none 0 0], .bool false]) (by simp [results, Try.results13, go_sem, x0, x1, x2]) rfl ⟨rfl, HB3.out⟩
end Go.Proofs.Ytmjglgdihlomlaa
