/- A deque that grows while thieves steal: plain, and in memory. -/
import Derived.Test.YtaooglcjcnkgnaaIts
import Derived.Test.YtaooglcjcnkgnaaThu
namespace Go.Proofs.Ytaooglcjcnkgnaa
open Go.RowKit Go.ChangeShapes Go.WideShapes Go.ChangeAt Go.Deep

theorem OwnS.push_s {top : Int} {n : Nat} {f : Int → Int} {c : Cl} {bot B lim : Int} {P : List Int} (h : OwnS top n f c bot B lim P) (hk : c.k = 1) : c.s ≤ 3 := by
  cases h
  all_goals first
    | (simp at hk; done)
    | skip
  all_goals simp

theorem J.push_s {d : Dq} {H : List Int} (h : J d H) (hk : (d.c 0).k = 1) : (d.c 0).s ≤ 3 := by
  obtain ⟨B, lim, P, hx, rfl⟩ := h
  exact hx.own.push_s hk

/-- How far the pushing is. -/
def GP (len i : Nat) (d : Dq) (pu : Nat) : Prop :=
  ((d.c 0).k = 1 ∧ 1 ≤ pu ∧ (i : Int) ≤ (len : Int) + 5 * (pu : Int) - 4 + (d.c 0).s) ∨ ((d.c 0).k = 0 ∧ (i : Int) ≤ (len : Int) + 5 * (pu : Int))

theorem GP.early {len i j b : Nat} {d : Dq} {pu : Nat} (h : GP len i d pu) (hj : j ≤ len) (hs : Sml b d) : GP len j d pu := by
  have h2 := (hs.s 0).1
  rcases h with ⟨h1, h3, _⟩ | ⟨h1, _⟩
  · exact .inl ⟨h1, h3, by omega⟩
  · exact .inr ⟨h1, by omega⟩

structure GI (n len i : Nat) (d : Dq) (X : List Int) (pu : Nat) : Prop where
  oi : OI i d X (pu + 1)
  gp : GP len i d pu
  pun : pu ≤ n

theorem GI.bound {n len i : Nat} {d : Dq} {X : List Int} {pu : Nat} (h : GI n len i d X pu) : i ≤ len + 5 * n := by
  have h1 := h.pun
  rcases h.gp with ⟨a, b, c⟩ | ⟨a, b⟩
  · obtain ⟨H, hJ, _⟩ := h.oi.acc
    have := hJ.push_s a
    omega
  · omega

theorem GI.zero (n len : Nat) : GI n len 0 Dq.zero [] 0 := ⟨OI.zero, .inr ⟨rfl, by omega⟩, Nat.zero_le _⟩

theorem GI.skip {n len i : Nat} {d : Dq} {X : List Int} {pu : Nat} (h : GI n len i d X pu) (hi : i < len) : GI n len (i + 1) d X pu :=
  ⟨h.oi.skip, h.gp.early hi h.oi.sm, h.pun⟩

theorem begin_c0 (d : Dq) (p : Nat) (kind item : Int) (hp : p ≠ 0) : (beginD d p kind item).2.c 0 = d.c 0 := by
  unfold beginD
  split
  · rfl
  · split
    · rfl
    · rw [Int.toNat_natCast]
      simp [Dq.put, Ne.symm hp]

theorem GI.steal {n len i : Nat} {d : Dq} {X : List Int} {pu : Nat} (h : GI n len i d X pu) (hi : i < len) (p : Nat) (hp : p ≠ 0) : GI n len (i + 1) (beginD d p 3 0).2 X pu := by
  obtain ⟨H, hJ, hA⟩ := h.oi.acc
  obtain ⟨h1, h2⟩ := hJ.begin p 3 0
  have hJ2 : J (beginD d p 3 0).2 H := by
    by_cases e : (beginD d p 3 0).1 = 0
    · have := h2 e
      rwa [if_neg (by omega)] at this
    · rw [h1 e]; exact hJ
  have hs := (h.oi.sm.begin p 3 0).mono (show 2 * i ≤ 2 * (i + 1) by omega)
  refine ⟨⟨⟨H, hJ2, hA⟩, hs, h.oi.nx1, by have := h.oi.nxi; omega⟩, ?_, h.pun⟩
  have hg : GP len i (beginD d p 3 0).2 pu := by
    unfold GP
    rw [begin_c0 d p 3 0 hp]
    exact h.gp
  exact hg.early hi hs

theorem GI.push {n len i : Nat} {d : Dq} {X : List Int} {pu : Nat} (h : GI n len i d X pu) (hb : busyD d ((0 : Nat) : Int) = false) (hp : pu < n) : GI n len (i + 1) (beginD d ((0 : Nat) : Int) 1 ((pu + 1 : Nat) : Int)).2 X (pu + 1) := by
  have he : beginD d ((0 : Nat) : Int) 1 ((pu + 1 : Nat) : Int) = (0, d.put 0 { Cl.zero with k := 1, i := ((pu + 1 : Nat) : Int) }) := by
    unfold beginD
    rw [if_neg (by decide), if_neg (by rw [hb]; simp)]
    rfl
  have h1 := (h.oi.begin 0 1).1 ⟨by rw [show beginD d 0 1 ((pu + 1 : Nat) : Int) = _ from he], rfl⟩
  refine ⟨h1, ?_, by omega⟩
  left
  rw [he]
  have hk0 : (d.c 0).k = 0 := by
    unfold busyD at hb
    simpa using hb
  refine ⟨by simp [Dq.put, Cl.zero], by omega, ?_⟩
  show ((i + 1 : Nat) : Int) ≤ (len : Int) + 5 * ((pu + 1 : Nat) : Int) - 4 + ((d.put 0 { Cl.zero with k := 1, i := ((pu + 1 : Nat) : Int) }).c 0).s
  have hs : ((d.put 0 { Cl.zero with k := 1, i := ((pu + 1 : Nat) : Int) }).c 0).s = 0 := by simp [Dq.put, Cl.zero]
  rw [hs]
  rcases h.gp with ⟨a, _⟩ | ⟨_, a⟩
  · omega
  · omega

theorem GI.step {n len i : Nat} {d : Dq} {X : List Int} {pu : Nat} (h : GI n len i d X pu) (q : Nat) (hq : i < len ∨ q = 0) (hb : busyD d (q : Int) = true) (hi : i ≤ 10000) :
    ((stepD d (q : Int)).1 = 2 → 1 ≤ (stepD d (q : Int)).2.1 ∧ (stepD d (q : Int)).2.1 ≤ (n : Int) ∧ X.count (stepD d (q : Int)).2.1 = 0 ∧ GI n len (i + 1) (stepD d (q : Int)).2.2 ((stepD d (q : Int)).2.1 :: X) pu) ∧ ((stepD d (q : Int)).1 ≠ 2 → GI n len (i + 1) (stepD d (q : Int)).2.2 X pu) := by
  obtain ⟨h1, h2⟩ := h.oi.step (q : Int) hi
  have hpn := h.pun
  have hsm := (h.oi.sm.step (q : Int)).mono (show 2 * i + 2 ≤ 2 * (i + 1) by omega)
  have hg : GP len (i + 1) (stepD d (q : Int)).2.2 pu := by
    obtain ⟨e, hk, _⟩ := stepD_busy hb
    rw [Int.toNat_natCast] at e hk
    rw [e] at hsm ⊢
    obtain ⟨c1, c2, c3⟩ := stepB_c d q
    obtain ⟨H, hJ, _⟩ := h.oi.acc
    by_cases e0 : q = 0
    · subst e0
      rcases h.gp with ⟨a, b, c⟩ | ⟨a, _⟩
      · have hs3 := hJ.push_s a
        by_cases ea : (stepB d 0).1 = 0
        · left
          rw [(c2 ea).1, (c2 ea).2]
          exact ⟨a, b, by omega⟩
        · right
          rw [c3 ea]
          exact ⟨rfl, by omega⟩
      · exact absurd a hk
    · have hil : i < len := by omega
      have : GP len i (stepB d q).2.2 pu := by
        unfold GP
        rw [c1 0 (fun e => e0 e.symm)]
        exact h.gp
      exact this.early hil hsm
  refine ⟨fun e => ?_, fun e => ⟨h2 e, hg, hpn⟩⟩
  obtain ⟨a1, a2, a3, a4⟩ := h1 e
  exact ⟨a1, by omega, a3, a4, hg, hpn⟩

namespace dequeGrows

def A (w : World) (tb : Nat) : Nat → Prop := fun k => k < w.heap.size ∨ k = tb

/-- The deque and the row of what is got. -/
structure GM (w wr : World) (cb tb N : Nat) (d : Dq) (X : List Int) : Prop where
  bel : Below w.heap.size w wr
  dn : Dn (A w tb) wr cb d
  own : wr.ownsRow w.heap.size 3 1 (.slice (some ⟨tb, 0, none⟩) N N) N (iV (tk N X))

theorem GM.start {w w2 w3 : World} {cb N : Nat} (hb : Below w.heap.size w w2) (hd : Dn (fun k => k < w.heap.size) w2 cb Dq.zero) (ho : w3.ownsRow w2.heap.size 3 1 (.slice (some ⟨w2.heap.size, 0, none⟩) N N) N (madeCells (Value.int IntKind.i64 0).cells (N * 1)).toList) (hg : w2.grownBy w3 none) : GM w w3 cb w2.heap.size N Dq.zero [] := by
  have h3 := below_of hg
  refine ⟨hb.trans (h3.mono hb.size), hd.more h3 (Nat.le_refl _) (ho.lt _ rfl).2, ?_⟩
  rw [made_zeros, ← tk_nil] at ho
  exact own_mono3 ho hb.size

theorem GM.after {w wr w' : World} {cb tb N : Nat} {d d' : Dq} {X : List Int} (h : GM w wr cb tb N d X) (hd : Dn (A w tb) w' cb d') (hK : KA (A w tb) wr w') : GM w w' cb tb N d' X :=
  ⟨hK.below h.bel (Nat.le_refl _) (fun k hk => .inl hk), hd, hK.own h.own (fun g hg => by simp [Value.ownBlock] at hg; exact .inr hg.symm)⟩

theorem GM.begin {w wr : World} {cb tb N : Nat} {d : Dq} {X : List Int} (h : GM w wr cb tb N d X) (who kind item : Int) : Calls Try.prog 13 #[.pointer (some ⟨cb, 0, none⟩), .int .i64 who, .int .i64 kind, .int .i64 item] wr fun e w' => (∃ x, e = .returned (.int .i64 x)) ∧ GM w w' cb tb N (beginD d who kind item).2 X := by
  refine (h.dn.begin who kind item).mono ?_
  rintro e w' ⟨rfl, hd, hK⟩
  exact ⟨⟨_, rfl⟩, h.after hd hK⟩

theorem GM.step {w wr : World} {cb tb N : Nat} {d : Dq} {X : List Int} (h : GM w wr cb tb N d X) (hs : Sml 999999 d) (who : Int) : Calls Try.prog 14 #[.pointer (some ⟨cb, 0, none⟩), .int .i64 who] wr fun e w' => e = .returned (.tuple #[.int .i64 (stepD d who).1, .int .i64 (stepD d who).2.1]) ∧ GM w w' cb tb N (stepD d who).2.2 X := by
  refine (h.dn.step hs who).mono ?_
  rintro e w' ⟨rfl, hd, hK⟩
  exact ⟨rfl, h.after hd hK⟩

theorem GM.took {w V : World} {tb cb N vn : Nat} {d : Dq} {X : List Int} (h : GM w V cb tb N d X) (hv : X.count (vn : Int) = 0) (hvn : vn < N) :
    V.cell? ⟨tb, vn, none⟩ = some (.int .i64 0) ∧ V.frozen? ⟨tb, vn, none⟩ = false ∧ GM w (V.setCell ⟨tb, vn, none⟩ (.int .i64 1)) cb tb N d ((vn : Int) :: X) := by
  have hs := h.own.stored vn (.int .i64 1)
  refine ⟨?_, h.own.frozenAt vn, ?_⟩
  · rw [h.own.cellAt vn (by omega)]
    simp [iV, tk, hvn, hv]
  · refine ⟨h.bel.grown hs.2 h.bel.size (fun k hk => own_low h.own k hk), h.dn.grown (.inr rfl) hs.2, ?_⟩
    have e : (iV (tk N X)).set vn (.int .i64 1) = iV (tk N ((vn : Int) :: X)) := by
      rw [← tk_set 1 (by rw [hv]; rfl)]
      simp [iV, List.map_set]
    rw [← e]
    exact hs.1

/-- What is left is looked at: the first j of it are. -/
structure LM (w wr : World) (tb N : Nat) (lv : Value) (m : Nat) (H X : List Int) (j : Nat) : Prop where
  bel : Below w.heap.size w wr
  lf : wr.ownsRow (tb + 1) 3 1 lv m (iV H)
  tk : wr.ownsRow w.heap.size 3 1 (.slice (some ⟨tb, 0, none⟩) N N) N (iV (tk N (H.take j ++ X)))

theorem LM.next {w wr : World} {tb N : Nat} {a : Option Addr} {m c : Nat} {H X : List Int} {j nx : Nat} (h : LM w wr tb N (.slice a m c) m H X j) (hA : Acc H X nx) (hj : j < m) (hnx : nx ≤ N) :
    ∃ g v : Nat, a = some ⟨g, 0, none⟩ ∧ 1 ≤ v ∧ v < nx ∧ m ≤ c ∧ wr.cell? ⟨g, j, none⟩ = some (.int .i64 (v : Int)) ∧ wr.cell? ⟨tb, v, none⟩ = some (.int .i64 0) ∧ wr.frozen? ⟨tb, v, none⟩ = false ∧ LM w (wr.setCell ⟨tb, v, none⟩ (.int .i64 1)) tb N (.slice a m c) m H X (j + 1) := by
  obtain ⟨a', c', e, hc, hr, hl, hg⟩ := own_reads h.lf
  simp only [Value.slice.injEq, true_and] at e
  obtain ⟨rfl, rfl⟩ := e
  obtain ⟨g, rfl, hg1, hg2⟩ := hg (by omega)
  have hjl : j < H.length := by omega
  obtain ⟨h1, h2, h3⟩ := hA.next hjl
  obtain ⟨v, hv⟩ : ∃ v : Nat, H[j] = v := ⟨H[j].toNat, by omega⟩
  rw [hv] at h1 h2 h3
  have hs := h.tk.stored v (.int .i64 1)
  refine ⟨g, v, rfl, by omega, by omega, hc, ?_, ?_, h.tk.frozenAt v, ?_, ?_, ?_⟩
  · rw [h.lf.cellAt j (by omega)]
    simp [iV, hjl, hv]
  · rw [h.tk.cellAt v (by omega)]
    have : v < N := by omega
    have e3 : List.count (v : Int) (H.take j) = 0 ∧ List.count (v : Int) X = 0 := by rw [List.count_append] at h3; omega
    simp [iV, Go.Proofs.Ytaooglcjcnkgnaa.tk, this, e3.1, e3.2]
  · exact h.bel.grown hs.2 h.bel.size (fun k hk => own_low h.tk k hk)
  · exact h.lf.kept hs.2 (.inr (by simp [Value.ownBlock]; omega))
  · have e : (iV (Go.Proofs.Ytaooglcjcnkgnaa.tk N (H.take j ++ X))).set v (.int .i64 1) = iV (Go.Proofs.Ytaooglcjcnkgnaa.tk N (H.take (j + 1) ++ X)) := by
      rw [← tk_next hjl, hv, ← tk_set 1 (by rw [h3]; rfl)]
      simp [iV, List.map_set]
    rw [← e]
    exact hs.1

theorem LM.one {w wr : World} {tb N : Nat} {lv : Value} {m : Nat} {H X : List Int} {nx : Nat} (h : LM w wr tb N lv m H X m) (hm : m = H.length) (hA : Acc H X nx) (hnx : nx ≤ N) {k : Nat} (hk1 : 1 ≤ k) (hk : k < nx) : wr.cell? ⟨tb, k, none⟩ = some (.int .i64 1) := by
  subst hm
  have ht := h.tk
  rw [List.take_length] at ht
  rw [ht.cellAt k (by omega)]
  have h1 := hA.1 (k : Int)
  rw [if_pos (by omega), ← List.count_append] at h1
  have : k < N := by omega
  rw [List.getElem?_eq_getElem (by simp [iV, Go.Proofs.Ytaooglcjcnkgnaa.tk]; omega)]
  simp only [iV, Go.Proofs.Ytaooglcjcnkgnaa.tk, List.getElem_map, List.getElem_range, h1]
  rfl

theorem LM.start {w wr w' : World} {cb tb N : Nat} {d : Dq} {X : List Int} {a : Option Addr} {m c : Nat} (h : GM w wr cb tb N d X) (ho : w'.ownsRow wr.heap.size 3 1 (.slice a m c) m (iV (itemsD d))) (hb : Below wr.heap.size wr w') : LM w w' tb N (.slice a m c) m (itemsD d) X 0 := by
  have hlt := (h.own.lt tb rfl).2
  exact ⟨h.bel.trans (hb.mono h.bel.size), own_mono3 ho (by omega), by simpa using own_below h.own hb⟩
end dequeGrows
end Go.Proofs.Ytaooglcjcnkgnaa
