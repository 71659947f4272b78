/- RingPlays answers true. -/
import Derived.Test.YtcgapdkehmpmbaaArg
import Derived.Test.YtcgapdkehmpmbaaAlv
import Derived.Deep.CutRange
namespace Go.Proofs.Ytcgapdkehmpmbaa
open Go.RowKit Go.ChangeShapes Go.WideShapes Go.ChangeAt Go.Deep

/-- 'append(v, y...)', v the call's own row of ints, y a slice of ints that is read, nil or not. -/
theorem append_ints {w : World} {ops : Array Oper} {rest : List Oper} {o : Oper} {a : Act} {Q : Exit → Act → World → Prop} (hgd : o.guard = none) (s x : Operand)
    (ho : o.op = .call { callee := .builtin .append, args := #[s, x], argTypes := #[22, 22] })
    (base : Nat) (v : Value) (n : Nat) (xs : List Int) (hs : a.eval s = v) (hown : w.ownsRow base 3 1 v n (iV xs))
    (ad : Option Addr) (m c : Nat) (ys : List Int) (hx : a.eval x = .slice ad m c) (hnil : ad = none → m = 0 ∧ c = 0) (hl : ys.length = m) (hr : Reads w ad (iV ys))
    (hb : n + m ≤ 1000000) (hbase : base ≤ w.heap.size)
    (h : ∀ v' w', w'.ownsRow base 3 1 v' (n + m) (iV (xs ++ ys)) → w.grownBy w' v.ownBlock → wpList Try.prog ops Q rest (a.put o.dst v') w') :
    wpList Try.prog ops Q (o :: rest) a w := by
  obtain ⟨i0, hi, hz0, hz1, hz2⟩ := info_parts Try.info3
  cases ad with
  | none =>
    obtain ⟨rfl, rfl⟩ := hnil rfl
    have hy : ys = [] := by cases ys with | nil => rfl | cons _ _ => simp at hl
    subst hy
    refine wpList_append_own_none hgd s x 22 ho base 3 i0 1 Try.underlying22 hi v n (iV xs) hs hown hx ?_
    exact h v w (by simpa using hown) ⟨rfl, rfl, rfl, Nat.le_refl _, fun _ _ _ => rfl⟩
  | some ad =>
    refine wpList_append_own _ hgd s x 22 ho base 3 i0 (.int .i64 0) 1 8 Try.underlying22 hi hz0 hz1 hz2 rfl (by decide) v n (iV xs) hs hown ad m c (iV ys) hx (by rw [iV_length]; omega) ?_ (iV_one ys) (by unfold maxLen; omega) (by omega) hbase ?_
    · rcases hr with hr | ⟨b, off, e, hr⟩
      · rw [hr]; simp
      · simp at e
        subst e
        intro j u hu
        rw [add_none]; exact hr j u hu
    · intro v' w' h1 h2 h3
      exact h v' w' (by simpa [iV] using h1) h2

theorem own_reads {w : World} {B n : Nat} {v : Value} {xs : List Int} (h : w.ownsRow B 3 1 v n (iV xs)) :
    ∃ a cap, v = .slice a n cap ∧ n ≤ cap ∧ Reads w a (iV xs) ∧ xs.length = n ∧ (0 < n → ∃ g, a = some ⟨g, 0, none⟩ ∧ B ≤ g ∧ g < w.heap.size) := by
  obtain ⟨a, cap, rfl, h1, h2⟩ := own_form h
  have hl : xs.length = n := by have := h.1; rw [iV_length] at this; omega
  refine ⟨a, cap, rfl, h1, ?_, hl, h2⟩
  rcases Nat.eq_zero_or_pos n with e | e
  · have : xs = [] := List.eq_nil_of_length_eq_zero (by omega)
    subst this
    exact .inl rfl
  · obtain ⟨g, rfl, _, _⟩ := h2 e
    refine .inr ⟨g, 0, rfl, fun j u hu => ?_⟩
    have := h.cells (g := g) rfl j u hu
    rwa [add_none] at this

theorem Rs0.grown {w wr w' : World} {l : List Rg} (h : Rs0 w wr l) {k : Nat} (hg : wr.grownBy w' (some k)) (hk : w.heap.size ≤ k) (hne : ∀ r ∈ l, r.cb ≠ k ∧ r.g ≠ k) : Rs0 w w' l :=
  ⟨h.bel.grown hg h.bel.size (fun j hj => by cases hj; exact hk), fun r hr => (h.ok r hr).grown hg (hne r hr).1 (hne r hr).2, h.ap, h.lo⟩

theorem Rs0.nil {w wr : World} (h : Below w.heap.size w wr) : Rs0 w wr [] := ⟨h, fun r hr => (by cases hr), List.Pairwise.nil, fun r hr => (by cases hr)⟩

theorem Dj.symm {a b : Nat × Nat} (h : Dj a b) : Dj b a := ⟨fun e => h.1 e.symm, fun e => h.2.2.1 e.symm, fun e => h.2.1 e.symm, fun e => h.2.2.2 e.symm⟩

theorem Rs0.perm {w wr : World} {l l' : List Rg} (h : Rs0 w wr l) (hp : l.Perm l') : Rs0 w wr l' :=
  ⟨h.bel, fun r hr => h.ok r (hp.mem_iff.2 hr), ((hp.map _).pairwise_iff (fun h => Dj.symm h)).1 h.ap, fun r hr => h.lo r (hp.mem_iff.2 hr)⟩

/-- One number of one's own row, one more. -/
theorem own_turn {w : World} {B g n cap j : Nat} {zs : List Int} (ho : w.ownsRow B 3 1 (.slice (some ⟨g, 0, none⟩) n cap) n (iV zs)) (hj : j < n) :
    ∃ x : Int, w.cell? ⟨g, j, none⟩ = some (.int .i64 x) ∧ w.frozen? ⟨g, j, none⟩ = false ∧ ∀ y : Int, (∃ zs' : List Int, (w.setCell ⟨g, j, none⟩ (.int .i64 y)).ownsRow B 3 1 (.slice (some ⟨g, 0, none⟩) n cap) n (iV zs')) ∧ w.grownBy (w.setCell ⟨g, j, none⟩ (.int .i64 y)) (some g) := by
  have hl : zs.length = n := by have := ho.1; rw [iV_length] at this; omega
  refine ⟨zs[j]'(by omega), ?_, ho.frozenAt j, fun y => ?_⟩
  · rw [ho.cellAt j (by omega)]
    simp [iV, hl, hj]
  · have h := ho.stored j (.int .i64 y)
    refine ⟨⟨zs.set j y, ?_⟩, h.2⟩
    have e : (iV zs).set j (.int .i64 y) = iV (zs.set j y) := by simp [iV, List.map_set]
    rw [← e]; exact h.1

theorem Rs.c3 {w wr : World} {ab : Nat} {x y z : Value} {l : List Rg} (h : Rs w wr ab [x, y, z] l) : wr.cell? ⟨ab, 0, none⟩ = some x ∧ wr.cell? ⟨ab, 1, none⟩ = some y ∧ wr.cell? ⟨ab, 2, none⟩ = some z := h.box.c3

theorem Rs0.cb {w wr : World} {l : List Rg} (h : Rs0 w wr l) {j : Nat} {r : Rg} (hj : l[j]? = some r) : wr.cell? ⟨r.cb, 0, none⟩ = some (.slice (some ⟨r.g, 0, none⟩) r.n r.n) := by
  have hc := ((h.ok r (List.mem_of_getElem? hj)).box.2 0 (by simp)).1
  simpa using hc

theorem Rs0.size {w wr : World} {l : List Rg} (h : Rs0 w wr l) {j : Nat} {r : Rg} (hj : l[j]? = some r) (q : Nat) : Calls Try.prog 13 #[.pointer (some ⟨r.cb, 0, none⟩)] (wr.drewN q) fun e w' => e = .returned (.int .i64 (r.n : Int)) ∧ w' = wr.drewN q :=
  size_any _ r.cb r.g r.n r.L ((h.ok r (List.mem_of_getElem? hj)).drewN q)

theorem Rs0.get {w wr : World} {l : List Rg} (h : Rs0 w wr l) {j : Nat} {r : Rg} (hj : l[j]? = some r) (i : Int) (q : Nat) : Calls Try.prog 14 #[.pointer (some ⟨r.cb, 0, none⟩), .int .i64 i] (wr.drewN q) fun e w' => e = .returned (.int .i64 (r.L.getD (plc r.n i) 0)) ∧ ∃ u, w' = (wr.drewN q).drewN u :=
  get_any _ r.cb r.g r.n r.L i ((h.ok r (List.mem_of_getElem? hj)).drewN q)

theorem Rs0.rget {w wr : World} {l : List Rg} (h : Rs0 w wr l) {j : Nat} {r : Rg} (hj : l[j]? = some r) (i : Int) (q : Nat) : Calls Try.prog 15 #[.pointer (some ⟨r.cb, 0, none⟩), .int .i64 i] (wr.drewN q) fun e w' => e = .returned (.int .i64 (r.L.getD (plc r.n i) 0)) ∧ ∃ u, w' = (wr.drewN q).drewN u :=
  rget_any _ r.cb r.g r.n r.L i ((h.ok r (List.mem_of_getElem? hj)).drewN q)

theorem Rs0.drewN {w wr : World} {l : List Rg} (h : Rs0 w wr l) (q : Nat) : Rs0 w (wr.drewN q) l := h.below (below_drewN (Below.refl _ _) q)

theorem Rs0.ok1 {w wr : World} {l : List Rg} (h : Rs0 w wr l) {j : Nat} {r : Rg} (hj : l[j]? = some r) : 1 ≤ r.n ∧ r.n ≤ 65536 := (h.ok r (List.mem_of_getElem? hj)).pow.pos

theorem acts_at {w : World} {d : Option Addr} {l : List (Int × Int × Int)} {k : Nat} (h : ActsM w d l) (hk : k < l.length) (hI : ∀ y ∈ l, I3 y) : ∃ b off wy i v, d = some ⟨b, off, none⟩ ∧ w.cell? ⟨b, off + k * 3, none⟩ = some (.int .i64 wy) ∧ w.cell? ⟨b, off + k * 3 + 1, none⟩ = some (.int .i64 i) ∧ w.cell? ⟨b, off + k * 3 + 2, none⟩ = some (.int .i64 v) ∧ I64 i ∧ I64 v := by
  rcases h with h | ⟨b, off, e, h⟩
  · subst h; simp at hk
  · obtain ⟨h1, h2, h3⟩ := h k l[k] (by simp [hk])
    have := hI l[k] (List.getElem_mem _)
    exact ⟨b, off, _, _, _, e, h1, h2, h3, this.2.1, this.2.2⟩

theorem sub5 (a b c d e : Rg) : [a, b, e].Sublist [a, b, c, d, e] := .cons_cons _ (.cons_cons _ (.cons _ (.cons _ (.cons_cons _ .slnil))))

theorem plc_self {n k : Nat} (h : k < n) : plc n (k : Int) = k := by
  unfold plc
  rw [Int.emod_eq_of_lt (by omega) (by omega)]
  simp

theorem Rs0.at {w wr : World} {l : List Rg} (h : Rs0 w wr l) {j : Nat} {r : Rg} (hj : l[j]? = some r) {k : Nat} (hk : k < r.n) : wr.cell? ⟨r.g, k, none⟩ = some (.int .i64 (r.L.getD (plc r.n (k : Int)) 0)) := by
  have := (h.ok r (List.mem_of_getElem? hj)).cell (k : Int)
  rwa [plc_self hk] at this ⊢

namespace ringPlays

/-- Between two acts. -/
def Inv (w wr : World) (rb mb ob : Nat) : Prop := ∃ rg mg og n no L Lo, Rs0 w wr [⟨mb, mg, n, L⟩, ⟨rb, rg, n, L⟩, ⟨ob, og, no, Lo⟩]

/-- New, with some rings there. -/
theorem new_more {w wr : World} {l : List Rg} (h : Rs0 w wr l) (s : Int) (a : Option Addr) (m c : Nat) (ns : List Int) (hl : ns.length = m) (hm : m ≤ 1000000) (hr : Reads wr a (iV ns)) :
    Calls Try.prog 7 #[.int .i64 s, .slice a m c] wr fun e w' => ∃ cb g n, e = .returned (.pointer (some ⟨cb, 0, none⟩)) ∧ UpTo s n ∧ Rs0 w w' (⟨cb, g, n, fillK n (List.replicate n 0) ns ns.length⟩ :: l) ∧ wr.heap.size ≤ cb ∧ wr.heap.size ≤ g ∧ Below wr.heap.size wr w' := by
  refine (new_any s a m c ns wr hl hm hr).mono ?_
  rintro e w' ⟨cb, g, n, rfl, hU, hR, h1, h2, hb⟩
  exact ⟨cb, g, n, rfl, hU, h.moreNew (s := ⟨cb, g, n, _⟩) hR h1 h2 hb, h1, h2, hb⟩

theorem newRing_more {w wr : World} {l : List Rg} (h : Rs0 w wr l) (s : Int) (a : Option Addr) (m c : Nat) (ns : List Int) (hl : ns.length = m) (hm : m ≤ 1000000) (hr : Reads wr a (iV ns)) :
    Calls Try.prog 8 #[.int .i64 s, .slice a m c] wr fun e w' => ∃ cb g n, e = .returned (.pointer (some ⟨cb, 0, none⟩)) ∧ UpTo s n ∧ Rs0 w w' (⟨cb, g, n, fillK n (List.replicate n 0) ns ns.length⟩ :: l) := by
  refine (newRing_any s a m c ns wr hl hm hr).mono ?_
  rintro e w' ⟨cb, g, n, rfl, hU, hR, h1, h2, hb⟩
  exact ⟨cb, g, n, rfl, hU, h.moreNew (s := ⟨cb, g, n, _⟩) hR h1 h2 hb⟩

set_option maxRecDepth 100000 in
theorem walk_skip (s : Int) (a : Option Addr) (m c : Nat) (d : Option Addr) (p q : Nat) (w : World) (_hm : m ≤ maxLen) (_hp : p ≤ maxLen) (h : 200 < p ∨ 300 < m ∨ 5000 < s) :
    Calls Try.prog 3 #[.int .i64 s, .slice a m c, .slice d p q] w fun e w' => e = .returned (.bool true) ∧ Below w.heap.size w w' := by
  have h' : (200 < (p : Int)) ∨ (¬ 200 < (p : Int) ∧ 300 < (m : Int)) ∨ (¬ 200 < (p : Int) ∧ ¬ 300 < (m : Int) ∧ 5000 < s) := by omega
  have hm : m ≤ 9223372036854775807 := by unfold maxLen at _hm; omega
  have hp : p ≤ 9223372036854775807 := by unfold maxLen at _hp; omega
  clear h
  rcases h' with h1 | ⟨h1, h2⟩ | ⟨h1, h2, h3⟩
  all_goals
    go_enter Try.func3, Try.ntmps3
    go_wp2_with (go_at_call 6; go_must ((with_reducible refine (alive_any w).mono ?_); rintro e w1 ⟨rfl, hb1⟩))
    go_ret
    exact ⟨rfl, hb1⟩

set_option maxRecDepth 100000 in
set_option maxHeartbeats 4000000 in
theorem walk_main (s : Int) (a : Option Addr) (m c : Nat) (ns : List Int) (d : Option Addr) (p q : Nat) (l : List (Int × Int × Int)) (w : World) (hl : ns.length = m) (hnil : a = none → m = 0 ∧ c = 0) (hr : Reads w a (iV ns)) (hlp : l.length = p) (hA : ActsM w d l) (hI : ∀ y ∈ l, I3 y)
    (hp : p ≤ 200) (hm : m ≤ 300) (hs : ¬ 5000 < s) :
    Calls Try.prog 3 #[.int .i64 s, .slice a m c, .slice d p q] w fun e w' => e = .returned (.bool true) ∧ Below w.heap.size w w' := by
  have HL := hide hl
  have HNIL := hide hnil
  have HR := hide hr
  have HLP := hide hlp
  have HA := hide hA
  have HI := hide hI
  have hp' : ¬ 200 < (p : Int) := by omega
  have hm' : ¬ 300 < (m : Int) := by omega
  clear hl hnil hr hlp hA hI
  go_enter Try.func3, Try.ntmps3
  go_wp2_with (first
    | (go_at_call 6; go_must ((with_reducible refine (alive_any w).mono ?_); rintro e w1 ⟨rfl, hb1⟩; have HB1 := hide hb1; clear hb1))
    | (at_builtin; go_must (refine append_ints rfl (.const (.slice none 0 0)) (.tmp 35) rfl w.heap.size (.slice none 0 0) 0 [] rfl (World.ownsRow_nil _ _ _ _) a m c ns rfl HNIL.out HL.out (HR.out.below HB1.out) (by omega) HB1.out.size ?_; intro v w2 ho2 hg2; have hb2 : Below w.heap.size w w2 := HB1.out.trans ((below_of hg2).mono HB1.out.size); rw [Nat.zero_add, List.nil_append] at ho2; obtain ⟨oa, oc, rfl, hoc, hor, -, hog⟩ := own_reads ho2; have HO2 := hide ho2; have HOG := hide hog; have C7 := hide (new_more (Rs0.nil hb2) s oa m oc ns HL.out (by omega) hor); have HOR := hide hor; have HB2 := hide hb2; clear ho2 hg2 hog hor hb2))
    | (go_at_call 7; ((with_reducible refine C7.out.mono ?_); rintro e w3 ⟨rb, rg, n, rfl, hU, hS, h1, h2, hb⟩; have C7b := hide (new_more hS s oa m oc ns HL.out (by omega) (HOR.out.below hb)); have HU := hide hU; have HRL := hide (And.intro h1 h2); have HO3 := hide (own_below HO2.out hb); have HSz3 := hide hb.size; clear hU hS h1 h2 hb))
    | (go_at_call 7; ((with_reducible refine C7b.out.mono ?_); rintro e w4 ⟨ob, og, no, rfl, hU4, hS4, h41, h42, hb4⟩; have HS4 := hide hS4; have HOL := hide (And.intro h41 h42); have HO4 := hide (own_below HO3.out hb4); clear hU4 hS4 h41 h42 hb4)))
  have HOG4 := hide (show ∀ g, oa = some ⟨g, 0, none⟩ → 0 < m → w.heap.size ≤ g ∧ rb ≠ g ∧ rg ≠ g ∧ ob ≠ g ∧ og ≠ g from fun g e h0 => by
    obtain ⟨g', e', h1, h2⟩ := HOG.out h0
    rw [e] at e'
    simp at e'
    have h3 := HRL.out
    have h4 := HOL.out
    have h5 := HSz3.out
    omega)
  have HO := hide (show ∃ zs, w4.ownsRow w.heap.size 3 1 (.slice oa m oc) m (iV zs) from ⟨_, HO4.out⟩)
  have HOA := hide (show 0 < m → ∃ g, oa = some ⟨g, 0, none⟩ from fun h0 => by obtain ⟨g, e, _⟩ := HOG.out h0; exact ⟨g, e⟩)
  clear C7 C7b HOR HRL HO2 HO3 HO4 HOL HSz3 HOG
  generalize hL : fillK n (List.replicate n 0) ns ns.length = L0 at *
  have HL0 := hide hL
  clear hL
  generalize hL1 : fillK no (List.replicate no 0) ns ns.length = L1 at *
  clear hL1
  go_loopw [11] (fun i wr => ∃ k : Nat, k ≤ m ∧ i = .int .i64 (k : Nat) ∧ Hid (∃ zs, wr.ownsRow w.heap.size 3 1 (.slice oa m oc) m (iV zs)) ∧ Hid (Rs0 w wr [⟨ob, og, no, L1⟩, ⟨rb, rg, n, L0⟩])) (fun i _ => m - (intOf i).toNat)
  case atStart => exact ⟨0, Nat.zero_le _, rfl, HO, HS4⟩
  case round =>
    obtain ⟨k, hk, rfl, HZ, HS⟩ := hrel
    by_cases hlt : k < m
    · obtain ⟨g, rfl⟩ := HOA.out (by omega)
      obtain ⟨zs, hz⟩ := HZ.out
      obtain ⟨x, hc, hf, HT⟩ := own_turn hz hlt
      have HT := hide HT
      have HG := hide (HOG4.out g rfl (by omega))
      clear hz
      go_wp2
      go_roundw
      case rel =>
        have h1 := HT.out (wrap64 (x + 1))
        have h2 := HG.out
        exact ⟨k + 1, by omega, by go_num, hide h1.1, hide (HS.out.grown h1.2 h2.1 (fun r hr => by
          simp at hr
          rcases hr with rfl | rfl
          · exact ⟨h2.2.2.2.1, h2.2.2.2.2⟩
          · exact ⟨h2.2.1, h2.2.2.1⟩))⟩
      case measure => simp [intOf]; omega
    · obtain rfl : k = m := by omega
      rename_i wr _
      have C8 := hide (newRing_more HS.out s a k c ns HL.out (by omega) (HR.out.below HS.out.bel))
      go_wp2_with (first
        | (go_at_call 8; go_must ((with_reducible refine C8.out.mono ?_); rintro e w5 ⟨mb, mg, n5, rfl, hU5, hS5⟩; have hn5 := hU5.same HU.out; subst hn5; rw [HL0.out] at hS5; have HS5 := hide (show Inv w w5 rb mb ob from ⟨rg, mg, og, n5, no, L0, L1, hS5.perm (List.Perm.cons _ (List.Perm.swap _ _ _))⟩); clear hU5 hS5)))
      go_loopw [9, 12, 13] (fun r t i wr => ∃ j rb mb : Nat, j ≤ p ∧ r = .pointer (some ⟨rb, 0, none⟩) ∧ t = .pointer (some ⟨mb, 0, none⟩) ∧ i = .int .i64 (j : Nat) ∧ Hid (Inv w wr rb mb ob)) (fun _ _ i _ => p - (intOf i).toNat)
      case atStart => exact ⟨0, rb, mb, Nat.zero_le _, rfl, rfl, rfl, HS5⟩
      case round =>
        obtain ⟨j, rb, mb, hj, rfl, rfl, rfl, HIN⟩ := hrel
        --MAIN
        obtain ⟨rg, mg, og, n, no, L, Lo, hRS⟩ := HIN.out
        have HB0 := hide hRS.bel
        have hpn := Rs0.ok1 hRS (j := 0) rfl
        obtain ⟨hpn1, hpn2⟩ := hpn
        by_cases hlt : j < p
        · obtain ⟨b, off, wy, i, v, rfl, ha0, ha1, ha2, hi, hv⟩ := acts_at HA.out (show j < l.length by have := HLP.out; omega) HI.out
          have HI1 := hide hi
          have HI2 := hide hv
          have hc0 := keep_cell ha0 HB0.out
          have hc1 := keep_cell ha1 HB0.out
          have hc2 := keep_cell ha2 HB0.out
          have HRS := hide (hRS.act (.int .i64 wy) (.int .i64 i) (.int .i64 v))
          clear ha0 ha1 ha2 hi hv hRS
          go_upto_region 18 with fail
          generalize hV : wr.alloc (.cells #[.int .i64 wy, .int .i64 i, .int .i64 v] 30) = V at *
          generalize hab : wr.heap.size = ab at *
          clear hc0 hc1 hc2
          have HHV := hide hV
          have HHA := hide hab
          clear hV hab
          obtain ⟨z0, z1, z2⟩ := HRS.out.c3
          have C9o := hide (fun x => HRS.out.put (j := 2) rfl i x)
          by_cases hw0 : wy = 0
          · subst hw0
            go_upto_region 21 with (first
              | (go_at_call 9; ((with_reducible refine (C9o.out _).mono ?_); rintro e w6 ⟨rfl, hR6⟩; have HR6 := hide hR6; obtain ⟨z0, z1, z2⟩ := hR6.c3; have CA := hide (hR6.put (j := 1) rfl i v); clear hR6)))
            go_upto_region 32 with (first
              | (go_at_call 9; (with_reducible refine CA.out.mono ?_); rintro e w7 ⟨rfl, hR7⟩; obtain ⟨z0, z1, z2⟩ := hR7.c3; have CB := hide (hR7.rput (j := 0) rfl i v); clear hR7)
              | (go_at_call 10; (with_reducible refine CB.out.mono ?_); rintro e w8 ⟨rfl, hR8⟩; have HT := hide hR8; clear hR8))
            have CT13 := hide (fun q => HT.out.size (j := 1) rfl q)
            have CT14 := hide (fun q => HT.out.get (j := 1) rfl i q)
            have CT15 := hide (fun q => HT.out.rget (j := 0) rfl i q)
            have hcm := HT.out.cb (j := 0) rfl
            have y1 := HT.out.c3.2.1
            clear z0 z1 z2
            dsimp only at CT13 CT14 CT15 hcm
            generalize hXX : List.getD _ (plc _ i) 0 = xx at CT14 CT15
            clear hXX
            go_upto_region 32 with fail
            go_big_quiet (first | (go_at_call 13; with_reducible exact Calls.quiet_of_same (CT13.out _)) | (go_at_call 14; with_reducible exact Calls.quiet_of (CT14.out _)) | (go_at_call 15; with_reducible exact Calls.quiet_of (CT15.out _)))
            go_wp2
            go_roundw
            case rel => exact ⟨j + 1, _, _, by omega, rfl, rfl, by go_num, hide ⟨_, _, _, _, _, _, _, (HT.out.toRs0.drewN _)⟩⟩
            case measure => simp [intOf]; omega
          · have hw0' : (wy == 0) = false := by simpa using hw0
            by_cases hw1 : wy = 1
            · subst hw1
              by_cases hbg : 10000 < n
              · have hbg' : (10000 : Int) < (n : Int) := by omega
                go_wp2_with (first
                  | (go_at_call 9; ((with_reducible refine (C9o.out _).mono ?_); rintro e w6 ⟨rfl, hR6⟩; have HR6 := hide hR6; obtain ⟨z0, z1, z2⟩ := hR6.c3; have hcm := hR6.cb (j := 0) rfl; clear hR6)))
                go_ret
                exact ⟨rfl, HR6.out.bel⟩
              · have hbg' : ¬ (10000 : Int) < (n : Int) := by omega
                go_upto_region 32 with (first
                  | (go_at_call 12; (with_reducible refine CB.out.mono ?_); rintro e w8 ⟨mb', mg', rfl, hR8⟩; obtain ⟨z0, z1, z2⟩ := hR8.c3; have CC := hide (hR8.put (j := 3) rfl i (-9)); clear hR8)
                  | (go_at_call 11; (with_reducible refine CA.out.mono ?_); rintro e w7 ⟨rb', rg', rfl, hR7⟩; obtain ⟨z0, z1, z2⟩ := hR7.c3; have CB := hide (hR7.rgrown (j := 1) rfl i v HI1.out HI2.out); clear hR7)
                  | (go_at_call 9; (with_reducible refine CC.out.mono ?_); rintro e w9 ⟨rfl, hR9⟩; have HT := hide hR9; clear hR9)
                  | (go_at_call 9; ((with_reducible refine (C9o.out _).mono ?_); rintro e w6 ⟨rfl, hR6⟩; have HR6 := hide hR6; obtain ⟨z0, z1, z2⟩ := hR6.c3; have hcm := hR6.cb (j := 0) rfl; have CA := hide (hR6.grown (j := 1) rfl i v HI1.out HI2.out); clear hR6)))
                have CT13 := hide (fun q => HT.out.size (j := 1) rfl q)
                have CT14 := hide (fun q => HT.out.get (j := 1) rfl i q)
                have CT15 := hide (fun q => HT.out.rget (j := 0) rfl i q)
                have hcm := HT.out.cb (j := 0) rfl
                have y1 := HT.out.c3.2.1
                clear z0 z1 z2
                dsimp only at CT13 CT14 CT15 hcm
                generalize hXX : List.getD _ (plc _ i) 0 = xx at CT14 CT15
                clear hXX
                go_upto_region 32 with fail
                go_big_quiet (first | (go_at_call 13; with_reducible exact Calls.quiet_of_same (CT13.out _)) | (go_at_call 14; with_reducible exact Calls.quiet_of (CT14.out _)) | (go_at_call 15; with_reducible exact Calls.quiet_of (CT15.out _)))
                go_wp2
                go_roundw
                case rel => exact ⟨j + 1, _, _, by omega, rfl, rfl, by go_num, hide ⟨_, _, _, _, _, _, _, (HT.out.toRs0.drewN _).sub (sub5 _ _ _ _ _)⟩⟩
                case measure => simp [intOf]; omega
            · have hw1' : (wy == 1) = false := by simpa using hw1
              go_upto_region 32 with (first
                | (go_at_call 9; ((with_reducible refine (C9o.out _).mono ?_); rintro e w6 ⟨rfl, hR6⟩; have HR6 := hide hR6; obtain ⟨z0, z1, z2⟩ := hR6.c3; have HT := hide hR6; clear hR6)))
              have CT13 := hide (fun q => HT.out.size (j := 1) rfl q)
              have CT14 := hide (fun q => HT.out.get (j := 1) rfl i q)
              have CT15 := hide (fun q => HT.out.rget (j := 0) rfl i q)
              have hcm := HT.out.cb (j := 0) rfl
              have y1 := HT.out.c3.2.1
              clear z0 z1 z2
              dsimp only at CT13 CT14 CT15 hcm
              generalize hXX : List.getD _ (plc _ i) 0 = xx at CT14 CT15
              clear hXX
              go_upto_region 32 with fail
              go_big_quiet (first | (go_at_call 13; with_reducible exact Calls.quiet_of_same (CT13.out _)) | (go_at_call 14; with_reducible exact Calls.quiet_of (CT14.out _)) | (go_at_call 15; with_reducible exact Calls.quiet_of (CT15.out _)))
              go_wp2
              go_roundw
              case rel => exact ⟨j + 1, _, _, by omega, rfl, rfl, by go_num, hide ⟨_, _, _, _, _, _, _, (HT.out.toRs0.drewN _)⟩⟩
              case measure => simp [intOf]; omega
        · obtain rfl : j = p := by omega
          have HT0 := hide hRS
          have hcm0 := hRS.cb (j := 0) rfl
          clear hRS
          dsimp only at hcm0
          go_wp2
          go_loopw [16] (fun i wr => ∃ k : Nat, k ≤ n ∧ i = .int .i64 (k : Nat) ∧ Hid (Rs0 w wr [⟨mb, mg, n, L⟩, ⟨rb, rg, n, L⟩, ⟨ob, og, no, Lo⟩])) (fun i _ => n - (intOf i).toNat)
          case atStart => exact ⟨0, Nat.zero_le _, rfl, HT0⟩
          case round =>
            obtain ⟨k, hk, rfl, HT⟩ := hrel
            have hcm := HT.out.cb (j := 0) rfl
            dsimp only at hcm
            by_cases hlk : k < n
            · have CT14 := hide (fun q => HT.out.get (j := 1) rfl (k : Int) q)
              have hck := HT.out.at (j := 0) rfl hlk
              dsimp only at CT14 hck
              generalize hXX : List.getD _ (plc _ (k : Int)) 0 = xx at CT14 hck
              clear hXX
              go_upto_region 37 with fail
              go_big_quiet (first | (go_at_call 14; with_reducible exact Calls.quiet_of (CT14.out _)))
              go_wp2
              go_roundw
              case rel => exact ⟨k + 1, by omega, by go_num, hide (HT.out.drewN _)⟩
              case measure => simp [intOf]; omega
            · obtain rfl : k = n := by omega
              go_wp2
              go_ret
              exact ⟨rfl, HT.out.bel⟩

/-- RingPlays answers true for every input. -/
theorem walk (s : Int) (a : Option Addr) (m c : Nat) (ns : List Int) (d : Option Addr) (p q : Nat) (l : List (Int × Int × Int)) (w : World) (hl : ns.length = m) (hmx : m ≤ maxLen) (hnil : a = none → m = 0 ∧ c = 0) (hr : Reads w a (iV ns)) (hlp : l.length = p) (hpx : p ≤ maxLen) (hA : ActsM w d l) (hI : ∀ y ∈ l, I3 y) :
    Calls Try.prog 3 #[.int .i64 s, .slice a m c, .slice d p q] w fun e w' => e = .returned (.bool true) ∧ Below w.heap.size w w' := by
  by_cases h : 200 < p ∨ 300 < m ∨ 5000 < s
  · exact walk_skip s a m c d p q w hmx hpx h
  · exact walk_main s a m c ns d p q l w hl hnil hr hlp hA hI (by omega) (by omega) (by omega)
end ringPlays
end Go.Proofs.Ytcgapdkehmpmbaa
