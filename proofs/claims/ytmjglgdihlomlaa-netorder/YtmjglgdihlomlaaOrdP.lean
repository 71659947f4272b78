/- Rows of ints of one's own; what NetOrder keeps. -/
import Derived.Test.YtmjglgdihlomlaaFlipW
import Derived.Deep.DeepAppendRoom
namespace Go.Proofs.Ytmjglgdihlomlaa
open Go.RowKit Go.ChangeShapes Go.WideShapes Go.ChangeAt Go.Deep

theorem iV_len (l : List Int) : (iV l).length = l.length := by simp [iV]
theorem iV_one (xs : List Int) : ∀ v ∈ iV xs, v.oneCell' = true := by
  intro v hv
  simp only [iV, List.mem_map] at hv
  obtain ⟨x, _, rfl⟩ := hv
  rfl
theorem iV_app (a b : List Int) : iV (a ++ b) = iV a ++ iV b := by simp [iV]
theorem own_mono3 {w : World} {b b' n : Nat} {v : Value} {xs : List Value} (h : w.ownsRow b 3 1 v n xs) (hb : b' ≤ b) : w.ownsRow b' 3 1 v n xs := by
  refine ⟨h.1, ?_⟩
  rcases h.2 with h | ⟨g, cap, cur, e, h1, h2⟩
  · exact .inl h
  · exact .inr ⟨g, cap, cur, e, by omega, h2⟩
theorem own_keep3 {w w' : World} {B n : Nat} {v : Value} {xs : List Value} (h : w.ownsRow B 3 1 v n xs) (hk : ∀ g, v.ownBlock = some g → w'.heap[g]? = w.heap[g]?) : w'.ownsRow B 3 1 v n xs := by
  refine ⟨h.1, ?_⟩
  rcases h.2 with h | ⟨g, cap, cur, rfl, h1, h2, h3⟩
  · exact .inl h
  · exact .inr ⟨g, cap, cur, rfl, h1, by rw [hk g rfl]; exact h2, h3⟩
theorem Try.info3 : (Try.prog.info? 3).map (fun i => (i.zero, i.size, i.bytes)) = some (some (.int .i64 0), 1, 8) := by kernel_rfl
theorem run_append_where (w : World) (B : Nat) (v : Value) (n : Nat) (xs ys : List Int) (ad : Option Addr) (m c : Nat) (hown : w.ownsRow B 3 1 v n (iV xs)) (hnil : ad = none → m = 0 ∧ c = 0) (hl : ys.length = m) (hr : Reads w ad (iV ys)) (hb : n + m ≤ 1000000) (hB : B ≤ w.heap.size) (ty : TypeId) :
    ∃ v' w', (Builtin.append_ #[31, 31] ty #[v, .slice ad m c]).run Try.prog w = .ok v' w' ∧ w'.ownsRow B 3 1 v' (n + m) (iV (xs ++ ys)) ∧ w.grownBy w' v.ownBlock ∧ (v'.ownBlock = v.ownBlock ∨ ∀ g, v'.ownBlock = some g → w.heap.size ≤ g) := by
  obtain ⟨i0, hi, hz0, hz1, hz2⟩ := info_parts Try.info3
  cases ad with
  | none =>
    obtain ⟨rfl, rfl⟩ := hnil rfl
    have hy : ys = [] := by cases ys with | nil => rfl | cons _ _ => simp at hl
    subst hy
    exact ⟨v, w, run_append_owned_none (P := Try.prog) (w := w) B 31 ty 3 i0 1 Try.underlying31 hi v n (iV xs) hown, by simpa using hown, ⟨rfl, rfl, rfl, Nat.le_refl _, fun _ _ _ => rfl⟩, .inl rfl⟩
  | some a =>
    have hcells : ∀ j u, (iV ys)[j]? = some u → w.cell? (a.add j) = some u := by
      rcases hr with hr | ⟨b, off, e, hr⟩
      · rw [hr]; simp
      · simp at e
        subst e
        intro j u hu
        rw [add_none]; exact hr j u hu
    rcases hown.2 with ⟨rfl, h0⟩ | ⟨g, cap, cur, rfl, h1, h2, h3, h4, h5, h6⟩
    · subst h0
      obtain ⟨v', w', q1, q2, q3, _⟩ := run_append_own (P := Try.prog) w w.heap.size 31 ty 3 i0 (.int .i64 0) 1 8 Try.underlying31 hi hz0 hz1 hz2 rfl (by decide) (.slice none 0 0) 0 (iV xs) (by
        have : xs = [] := List.eq_nil_of_length_eq_zero (by have := hown.1; simpa [iV] using this)
        subst this
        exact World.ownsRow_nil w _ 3 1) a m c (iV ys) (by rw [iV_len]; omega) hcells (iV_one ys) (by unfold maxLen; omega) (by omega) (Nat.le_refl _)
      exact ⟨v', w', q1, by rw [iV_app]; exact own_mono3 q2 hB, q3, .inr (fun g hg => (q2.lt g hg).1)⟩
    · by_cases hroom : n + m ≤ cap
      · obtain ⟨w', q1, q2, q3⟩ := run_append_own_spare (P := Try.prog) w B 31 ty 3 i0 1 Try.underlying31 hi hz1 g n cap (iV xs) hown a m c (iV ys) (by rw [iV_len]; omega) hcells (iV_one ys) hroom
        exact ⟨_, w', q1, by rw [iV_app]; exact q2, q3, .inl rfl⟩
      · obtain ⟨v', w', q1, q2, q3⟩ := run_append_arg_grows (P := Try.prog) w 31 ty 3 i0 (.int .i64 0) 1 8 Try.underlying31 hi hz0 hz1 hz2 rfl (by decide) ⟨g, 0, none⟩ n cap (iV xs) (by have := hown.1; omega) (fun j u hu => hown.cells (g := g) rfl j u hu) a m c (iV ys) (by rw [iV_len]; omega) hcells (by omega) (by unfold maxLen; omega) (by omega)
        exact ⟨v', w', q1, by rw [iV_app]; exact own_mono3 q2 hB, ⟨q3.os, q3.tape, q3.output, q3.size, fun k hk _ => q3.block k hk (by simp)⟩, .inr (fun g hg => (q2.lt g hg).1)⟩

theorem i64_mask (m : Nat) (hm : m < 63) (n : Int) : bits .and .i64 n ((2 ^ m - 1 : Nat) : Int) = n % ((2 ^ m : Nat) : Int) := by
  have hle : 2 ^ m ≤ 2 ^ 62 := Nat.pow_le_pow_right (by decide) (by omega)
  have h1 : (BitVec.ofInt 64 ((2 ^ m - 1 : Nat) : Int)).toNat = 2 ^ m - 1 := by
    rw [BitVec.ofInt_natCast, BitVec.toNat_ofNat]; exact Nat.mod_eq_of_lt (by omega)
  have key : (BitVec.ofInt 64 n &&& BitVec.ofInt 64 ((2 ^ m - 1 : Nat) : Int)).toNat = (n % ((2 ^ 64 : Nat) : Int)).toNat % 2 ^ m := by
    rw [BitVec.toNat_and, BitVec.toNat_ofInt, h1, Nat.and_two_pow_sub_one_eq_mod]
  show IntKind.i64.wrap ((BitVec.ofInt 64 n &&& BitVec.ofInt 64 ((2 ^ m - 1 : Nat) : Int)).toNat : Nat) = _
  have hp : 0 < 2 ^ m := Nat.two_pow_pos m
  have hd : (2 ^ m) ∣ 2 ^ 64 := Nat.pow_dvd_pow 2 (by omega)
  have h2 : (((n % ((2 ^ 64 : Nat) : Int)).toNat % 2 ^ m : Nat) : Int) = n % ((2 ^ m : Nat) : Int) := by
    rw [Int.natCast_emod, Int.toNat_of_nonneg (Int.emod_nonneg _ (by decide))]
    exact Int.emod_emod_of_dvd n (Int.natCast_dvd_natCast.2 hd)
  have h3 : (n % ((2 ^ 64 : Nat) : Int)).toNat % 2 ^ m < 2 ^ m := Nat.mod_lt _ hp
  rw [key, IntKind.wrap_i64, h2]
  have h4 : n % ((2 ^ m : Nat) : Int) < ((2 ^ m : Nat) : Int) := Int.emod_lt_of_pos _ (by omega)
  have h5 : 0 ≤ n % ((2 ^ m : Nat) : Int) := Int.emod_nonneg _ (by omega)
  omega

theorem mask127 (n : Int) : bits .and .i64 n 127 = n % 128 := i64_mask 7 (by decide) n
theorem wp_append_int {w w' : World} {o : Oper} {a : Act} {K : Act → World → Prop} {Q : Exit → Act → World → Prop} {v vx v' : Value} (s x : Operand)
    (ho : o.op = .call { callee := .builtin .append, args := #[s, x], argTypes := #[31, 31] }) (hs : a.eval s = v) (hx : a.eval x = vx)
    (hrun : (Builtin.append_ #[31, 31] o.type #[v, vx]).run Try.prog w = .ok v' w') (h : K (a.put o.dst v') w') : Oper.wp Try.prog o a w K Q := by
  unfold Oper.wp
  simp [execOp, ho, resolve, invoke, builtin, hs, hx, hrun, Result.andThen]
  exact h
/-- 'append(v, y...)' of ints: where the result lies. -/
theorem append_where {w : World} {ops : Array Oper} {rest : List Oper} {o : Oper} {a : Act} {Q : Exit → Act → World → Prop} (hgd : o.guard = none) (s x : Operand)
    (ho : o.op = .call { callee := .builtin .append, args := #[s, x], argTypes := #[31, 31] })
    (B : Nat) (v : Value) (n : Nat) (xs : List Int) (hs : a.eval s = v) (hown : w.ownsRow B 3 1 v n (iV xs))
    (ad : Option Addr) (m c : Nat) (ys : List Int) (hx : a.eval x = .slice ad m c) (hnil : ad = none → m = 0 ∧ c = 0) (hl : ys.length = m) (hr : Reads w ad (iV ys))
    (hb : n + m ≤ 1000000) (hB : B ≤ w.heap.size)
    (h : ∀ v' w', w'.ownsRow B 3 1 v' (n + m) (iV (xs ++ ys)) → w.grownBy w' v.ownBlock → (v'.ownBlock = v.ownBlock ∨ ∀ g, v'.ownBlock = some g → w.heap.size ≤ g) → wpList Try.prog ops Q rest (a.put o.dst v') w') :
    wpList Try.prog ops Q (o :: rest) a w := by
  obtain ⟨v', w', hrun, h1, h2, h3⟩ := run_append_where w B v n xs ys ad m c hown hnil hl hr hb hB o.type
  refine wpList_plain hgd fun K hK => ?_
  exact wp_append_int s x ho hs hx hrun (hK _ _ (h v' w' h1 h2 h3))

def pk (i : Nat) : Pc := ((i : Int), (i : Int) + 1, [i])
def nI (l : List Nat) : List Int := l.map fun (x : Nat) => (x : Int)
theorem nI_len (l : List Nat) : (nI l).length = l.length := by simp [nI]
/-- What NetOrder keeps: the net's parcels, and the numbers that are left. -/
def OrdS (B : Nat) (w wr : World) (cb : Nat) (v : Value) (lf : List Nat) : Prop :=
  ∃ D : Nat → Prop, NetP D wr cb (lf.map pk) ∧ (∀ k, D k → B ≤ k) ∧ wr.ownsRow B 3 1 v lf.length (iV (nI lf)) ∧ (∀ g, v.ownBlock = some g → ¬ D g) ∧ Below B w wr
theorem OrdS.below {B : Nat} {w wr w' : World} {cb : Nat} {v : Value} {lf : List Nat} (h : OrdS B w wr cb v lf) (hB : B ≤ wr.heap.size) (hb : Below wr.heap.size wr w') : OrdS B w w' cb v lf := by
  obtain ⟨D, h1, h2, h3, h4, h5⟩ := h
  exact ⟨D, h1.below hb, h2, own_keep3 h3 (fun g hg => hb.block g (h3.lt g hg).2), h4, h5.trans (hb.mono hB)⟩
/-- One parcel more is sent. -/
theorem ord_send {B : Nat} {w wr : World} {cb : Nat} {v : Value} {lf : List Nat} {i : Nat} (h : OrdS B w wr cb v lf) (hB : B ≤ wr.heap.size) (hi : i < 256) (hL : lf.length ≤ 200) :
    Calls Try.prog 10 #[.pointer (some ⟨cb, 0, none⟩), .slice (some ⟨wr.heap.size + 1, 0, none⟩) 1 1] ((wr.alloc (.cells #[.int .u8 (i : Int)] 5)).alloc (.cells #[.int .i64 (i : Int), .int .i64 ((i : Int) + 1), .slice (some ⟨wr.heap.size, 0, none⟩) 1 1] 37)) fun e w' => e = .returned (.int .i64 1) ∧ ∃ D : Nat → Prop, NetP D w' cb ((lf ++ [i]).map pk) ∧ (∀ k, D k → B ≤ k) ∧ w'.ownsRow B 3 1 v lf.length (iV (nI lf)) ∧ (∀ g, v.ownBlock = some g → ¬ D g) ∧ Below B w w' := by
  obtain ⟨D, h1, h2, h3, h4, h5⟩ := h
  have hb1 := below_new wr (.cells #[.int .u8 (i : Int)] 5)
  have hs : (wr.alloc (.cells #[.int .u8 (i : Int)] 5)).heap.size = wr.heap.size + 1 := by simp
  have := netFlips.send_one (wr.alloc (.cells #[.int .u8 (i : Int)] 5)) cb (i : Int) ((i : Int) + 1) (some ⟨wr.heap.size, 0, none⟩) 1 1 [i] rfl (fun x hx => by simp at hx; omega) ⟨Nat.le_refl _, by unfold maxLen; omega⟩ (fun e => by cases e) (reads_new wr (bV [i]) 5) (by omega) D (lf.map pk) (by rw [List.length_map]; omega) (h1.below hb1) (fun ad e _ hd => by cases e; have := h1.lt _ hd; simp at this)
  rw [hs] at this
  refine this.mono ?_
  rintro e w' ⟨rfl, D', q1, q2, q3⟩
  refine ⟨rfl, D', by rw [List.map_append]; exact q1, fun k hk => ?_, own_keep3 h3 (fun g hg => ?_), fun g hg hd => ?_, ?_⟩
  · rcases q2 k hk with h | h
    · exact h2 k h
    · omega
  · have hlt := (h3.lt g hg).2
    rw [q3.block g (by omega) (h4 g hg), hb1.block g hlt]
  · rcases q2 g hd with h | h
    · exact h4 g hg h
    · have := (h3.lt g hg).2; omega
  · exact (h5.trans (hb1.mono hB)).trans (q3.to_below (by omega) h2)
/-- A number more is left. -/
theorem ord_more {B : Nat} {w w1 w2 : World} {cb : Nat} {v v2 : Value} {lf : List Nat} {i : Nat} (hn : ∃ D : Nat → Prop, NetP D w1 cb ((lf ++ [i]).map pk) ∧ (∀ k, D k → B ≤ k) ∧ w1.ownsRow B 3 1 v lf.length (iV (nI lf)) ∧ (∀ g, v.ownBlock = some g → ¬ D g) ∧ Below B w w1) (hB : B ≤ w1.heap.size)
    (X : World) (hX : Below w1.heap.size w1 X) (ho : w2.ownsRow B 3 1 v2 (lf.length + 1) (iV (nI lf ++ [(i : Int)]))) (hg : X.grownBy w2 v.ownBlock) (hw : v2.ownBlock = v.ownBlock ∨ ∀ g, v2.ownBlock = some g → X.heap.size ≤ g) : OrdS B w w2 cb v2 (lf ++ [i]) := by
  obtain ⟨D, h1, h2, h3, h4, h5⟩ := hn
  have hD := h1.lt
  have hs := hX.size
  refine ⟨D, (h1.below hX).keep hg.size (fun k hk hlt => hg.block k hlt (fun e => h4 k e.symm hk)), h2, ?_, fun g e hd => ?_, ?_⟩
  · rw [List.length_append]
    have : nI (lf ++ [i]) = nI lf ++ [(i : Int)] := by simp [nI]
    rw [this]; exact ho
  · rcases hw with h | h
    · rw [h] at e; exact h4 g e hd
    · have := h g e
      have := hD g hd
      omega
  · exact (h5.trans (hX.mono hB)).grown hg (by omega) (fun k hk => (h3.lt k hk).1)

end Go.Proofs.Ytmjglgdihlomlaa
