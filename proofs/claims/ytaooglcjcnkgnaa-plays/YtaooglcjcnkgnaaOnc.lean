/- What is pushed, taken and left, along any row of calls: plain. -/
import Derived.Test.YtaooglcjcnkgnaaPrp
namespace Go.Proofs.Ytaooglcjcnkgnaa
open Go.RowKit Go.ChangeShapes Go.WideShapes Go.ChangeAt Go.Deep

/-- How often each of 0 .. n - 1 stands in X. -/
def tk (n : Nat) (X : List Int) : List Int := (List.range n).map fun (j : Nat) => ((X.count (j : Int) : Nat) : Int)

theorem tk_length (n : Nat) (X : List Int) : (tk n X).length = n := by simp [tk]
theorem tk_at {n : Nat} {X : List Int} {j : Nat} (h : j < n) : (tk n X)[j]? = some ((X.count (j : Int) : Nat) : Int) := by simp [tk, h]
theorem tk_nil (n : Nat) : tk n [] = List.replicate n 0 := by simp [tk, List.map_const']
theorem tk_set {n j : Nat} {X : List Int} (x : Int) (hx : x = ((X.count (j : Int) : Nat) : Int) + 1) : (tk n X).set j x = tk n ((j : Int) :: X) := by
  apply List.ext_getElem
  · simp [tk]
  · intro i h1 h2
    rw [List.getElem_set]
    simp only [tk, List.getElem_map, List.getElem_range, List.count_cons]
    by_cases e : j = i
    · subst e; simp [hx]
    · rw [if_neg e]
      have : ((j : Int) == (i : Int)) = false := by simp; omega
      simp [this]

/-- Each of 1 .. nx - 1 stands once, in H or in X. -/
def Acc (H X : List Int) (nx : Nat) : Prop := (∀ v : Int, H.count v + X.count v = if 1 ≤ v ∧ v < (nx : Int) then 1 else 0) ∧ H.length + X.length + 1 = nx

theorem Acc.start : Acc [] [] 1 := ⟨fun v => by rw [if_neg (by omega)]; rfl, rfl⟩

theorem Acc.perm {H H' X : List Int} {nx : Nat} (h : Acc H X nx) (hp : H.Perm H') : Acc H' X nx :=
  ⟨fun v => by rw [← hp.count_eq]; exact h.1 v, by rw [← hp.length_eq]; exact h.2⟩

theorem Acc.take {H H' X : List Int} {nx : Nat} {v : Int} (h : Acc H X nx) (hp : H.Perm (v :: H')) : 1 ≤ v ∧ v < (nx : Int) ∧ X.count v = 0 ∧ Acc H' (v :: X) nx := by
  have h2 := h.perm hp
  have h3 := h2.1 v
  rw [List.count_cons_self] at h3
  have h4 : 1 ≤ v ∧ v < (nx : Int) := by
    by_cases e : 1 ≤ v ∧ v < (nx : Int)
    · exact e
    · rw [if_neg e] at h3; omega
  rw [if_pos h4] at h3
  refine ⟨h4.1, h4.2, by omega, fun u => ?_, by have := h2.2; simp at this ⊢; omega⟩
  have := h2.1 u
  rw [List.count_cons] at this ⊢
  omega

theorem Acc.more {H X : List Int} {nx : Nat} (h : Acc H X nx) (h1 : 1 ≤ nx) : Acc (H ++ [(nx : Int)]) X (nx + 1) := by
  refine ⟨fun v => ?_, by have := h.2; simp; omega⟩
  have h2 := h.1 v
  rw [List.count_append]
  by_cases e : v = (nx : Int)
  · have hc : List.count v [(nx : Int)] = 1 := by rw [e]; simp
    rw [hc, if_pos (by omega)]
    rw [if_neg (by omega)] at h2
    omega
  · have hc : List.count v [(nx : Int)] = 0 := by rw [List.count_eq_zero]; simpa using e
    rw [hc]
    by_cases e3 : 1 ≤ v ∧ v < (nx : Int)
    · rw [if_pos e3] at h2; rw [if_pos (by omega)]; omega
    · rw [if_neg e3] at h2; rw [if_neg (by omega)]; omega

theorem OwnS.idle_of {top : Int} {n : Nat} {f : Int → Int} {c : Cl} {bot B lim : Int} {P : List Int} (h : OwnS top n f c bot B lim P) (hk : c.k = 0) : B = bot ∧ lim = bot ∧ P = [] := by
  cases h
  case idle => exact ⟨rfl, rfl, rfl⟩
  all_goals simp at hk

theorem OwnS.s_le {top : Int} {n : Nat} {f : Int → Int} {c : Cl} {bot B lim : Int} {P : List Int} (h : OwnS top n f c bot B lim P) (hk : c.k ≠ 0) : c.s ≤ 4 := by
  cases h
  case idle => simp at hk
  all_goals simp

theorem J.s_le {d : Dq} {H : List Int} (h : J d H) (p : Nat) (hk : (d.c p).k ≠ 0) : (d.c p).s ≤ 4 := by
  obtain ⟨B, lim, P, hx, rfl⟩ := h
  by_cases hp : p = 0
  · subst hp; exact hx.own.s_le hk
  · rcases hx.th p (by omega) with h | ⟨h, h2 | ⟨h2, h3, _⟩⟩
    · exact absurd h hk
    · omega
    · omega

theorem J.items {d : Dq} {H : List Int} (h : J d H) (hk : (d.c 0).k = 0) : H = itemsD d := by
  obtain ⟨B, lim, P, hx, rfl⟩ := h
  obtain ⟨rfl, _, rfl⟩ := hx.own.idle_of hk
  rw [items_sg, List.append_nil]

theorem J.begin {d : Dq} {H : List Int} (h : J d H) (who kind item : Int) : ((beginD d who kind item).1 ≠ 0 → (beginD d who kind item).2 = d) ∧
    ((beginD d who kind item).1 = 0 → J (beginD d who kind item).2 (if kind = 1 then H ++ [item] else H)) := by
  unfold beginD
  by_cases ho : ownC who kind = false
  · rw [if_pos ho]; exact ⟨fun _ => rfl, fun e => by simp at e⟩
  rw [if_neg ho]
  by_cases hb : busyD d who = true
  · rw [if_pos hb]; exact ⟨fun _ => rfl, fun e => by simp at e⟩
  rw [if_neg hb]
  refine ⟨fun e => absurd rfl e, fun _ => ?_⟩
  obtain ⟨B, lim, P, hx, rfl⟩ := h
  have hw : 0 ≤ who ∧ who < 16 := by
    unfold ownC at ho
    by_cases e : who = 0
    · omega
    · rw [if_neg e] at ho; simp at ho; omega
  have hk0 : (d.c who.toNat).k = 0 := by
    unfold busyD at hb
    rw [decide_eq_true hw] at hb
    simpa using hb
  show J (d.mk' who.toNat d.top d.bot d.n d.L { Cl.zero with k := kind, i := item }) _
  by_cases e : who = 0
  · subst e
    have hk0' : (d.c 0).k = 0 := hk0
    obtain ⟨rfl, rfl, rfl⟩ := hx.own.idle_of hk0'
    have h1 := hx.tlim
    have h2 := hx.room
    have hkk : kind = 1 ∨ kind = 2 := by unfold ownC at ho; rw [if_pos rfl] at ho; simp at ho; omega
    rcases hkk with rfl | rfl
    · rw [if_pos rfl]
      exact ⟨d.bot, d.bot, [item], hx.mk0 _ _ _ _ _ _ (.push0 ..) h1 (by omega) h2 (by omega) (fun _ h => h), by rw [List.append_nil]; rfl⟩
    · rw [if_neg (by omega)]
      exact ⟨d.bot, d.bot, [], hx.mk0 _ _ _ _ _ _ (.pop0 ..) h1 (by omega) h2 (by omega) (fun _ h => h), rfl⟩
  · have hkk : kind = 3 := by unfold ownC at ho; rw [if_neg e] at ho; simp at ho; omega
    subst hkk
    rw [if_neg (by omega)]
    exact ⟨B, lim, P, hx.mkp (by omega) _ d.top (.inl rfl) (.inr ⟨rfl, .inl rfl⟩), rfl⟩

theorem go_ks (d : Dq) (p : Nat) : ((goD d p).2.c p).k = (d.c p).k ∧ ((goD d p).2.c p).s = (d.c p).s ∧ ∀ q, q ≠ p → (goD d p).2.c q = d.c q := by
  unfold goD pushD popD stealD
  dsimp only
  repeat' split
  all_goals (refine ⟨?_, ?_, fun q hq => ?_⟩ <;> simp [Dq.put]; try (intro e; exact absurd e hq))

/-- What a step does to the calls. -/
theorem stepB_c (d : Dq) (p : Nat) : (∀ q, q ≠ p → (stepB d p).2.2.c q = d.c q) ∧ ((stepB d p).1 = 0 → ((stepB d p).2.2.c p).k = (d.c p).k ∧ ((stepB d p).2.2.c p).s = (d.c p).s + 1) ∧ ((stepB d p).1 ≠ 0 → (stepB d p).2.2.c p = Cl.zero) := by
  obtain ⟨h1, h2, h3⟩ := go_ks (bump d p) p
  have hb1 : ((bump d p).c p).k = (d.c p).k ∧ ((bump d p).c p).s = (d.c p).s + 1 := by simp [bump, Dq.put]
  have hb2 : ∀ q, q ≠ p → (bump d p).c q = d.c q := fun q hq => by simp [bump, Dq.put, hq]
  unfold stepB
  dsimp only
  refine ⟨fun q hq => ?_, fun e => ?_, fun e => ?_⟩
  · split
    · rw [h3 q hq, hb2 q hq]
    · simp [Dq.put, hq, h3 q hq, hb2 q hq]
  · rw [if_pos e, h1, h2]; exact hb1
  · rw [if_neg e]; simp [Dq.put]

theorem stepD_busy {d : Dq} {who : Int} (h : busyD d who = true) : stepD d who = stepB d who.toNat ∧ (d.c who.toNat).k ≠ 0 ∧ 0 ≤ who ∧ who < 16 := by
  unfold stepD
  rw [if_pos h]
  unfold busyD at h
  simp at h
  exact ⟨rfl, h.2, h.1⟩

theorem stepD_idle {d : Dq} {who : Int} (h : ¬ busyD d who = true) : stepD d who = (0, 0, d) := by
  unfold stepD
  rw [if_neg h]

/-- Between two acts of a row of calls. -/
structure OI (i : Nat) (d : Dq) (X : List Int) (nx : Nat) : Prop where
  acc : ∃ H, J d H ∧ Acc H X nx
  sm : Sml (2 * i) d
  nx1 : 1 ≤ nx
  nxi : nx ≤ i + 1

theorem OI.zero : OI 0 Dq.zero [] 1 := ⟨⟨[], J.zero, Acc.start⟩, Sml.zero, Nat.le_refl _, Nat.le_refl _⟩
theorem OI.skip {i : Nat} {d : Dq} {X : List Int} {nx : Nat} (h : OI i d X nx) : OI (i + 1) d X nx := ⟨h.acc, h.sm.mono (by omega), h.nx1, by have := h.nxi; omega⟩

theorem OI.begin {i : Nat} {d : Dq} {X : List Int} {nx : Nat} (h : OI i d X nx) (who kind : Int) :
    ((beginD d who kind nx).1 = 0 ∧ kind = 1 → OI (i + 1) (beginD d who kind nx).2 X (nx + 1)) ∧ (¬ ((beginD d who kind nx).1 = 0 ∧ kind = 1) → OI (i + 1) (beginD d who kind nx).2 X nx) := by
  obtain ⟨H, hJ, hA⟩ := h.acc
  obtain ⟨h1, h2⟩ := hJ.begin who kind nx
  have hs := (h.sm.begin who kind nx).mono (show 2 * i ≤ 2 * (i + 1) by omega)
  have hn := h.nx1
  have hn2 := h.nxi
  refine ⟨fun ⟨e, ek⟩ => ?_, fun e => ?_⟩
  · have := h2 e
    rw [if_pos ek] at this
    exact ⟨⟨_, this, hA.more hn⟩, hs, by omega, by omega⟩
  · by_cases e0 : (beginD d who kind nx).1 = 0
    · have := h2 e0
      rw [if_neg (fun ek => e ⟨e0, ek⟩)] at this
      exact ⟨⟨_, this, hA⟩, hs, hn, by omega⟩
    · rw [h1 e0]
      exact h.skip

theorem OI.step {i : Nat} {d : Dq} {X : List Int} {nx : Nat} (h : OI i d X nx) (who : Int) (hi : i ≤ 10000) :
    ((stepD d who).1 = 2 → 1 ≤ (stepD d who).2.1 ∧ (stepD d who).2.1 < (nx : Int) ∧ X.count (stepD d who).2.1 = 0 ∧ OI (i + 1) (stepD d who).2.2 ((stepD d who).2.1 :: X) nx) ∧ ((stepD d who).1 ≠ 2 → OI (i + 1) (stepD d who).2.2 X nx) := by
  by_cases hb : busyD d who = true
  · obtain ⟨e, hk, _⟩ := stepD_busy hb
    have hs := (h.sm.step who).mono (show 2 * i + 2 ≤ 2 * (i + 1) by omega)
    rw [e] at hs ⊢
    obtain ⟨H, hJ, hA⟩ := h.acc
    have hbt := h.sm.bot
    obtain ⟨H', hS⟩ := hJ.stepB hk (by omega)
    have hn2 := h.nxi
    refine ⟨fun e2 => ?_, fun e2 => ?_⟩
    · obtain ⟨a1, a2, a3, a4⟩ := hA.take (hS.item e2)
      exact ⟨a1, a2, a3, ⟨H', hS.j, a4⟩, hs, h.nx1, by omega⟩
    · exact ⟨⟨H', hS.j, hA.perm (hS.keep e2)⟩, hs, h.nx1, by omega⟩
  · rw [stepD_idle hb]
    exact ⟨fun e => by simp at e, fun _ => h.skip⟩

/-- How often it is p's turn, of m, ahead of i. -/
def tr (m p i : Nat) : Nat := (i + (m - 1) - p) / m

theorem tr_mono {m p i j : Nat} (h : i ≤ j) : tr m p i ≤ tr m p j := Nat.div_le_div_right (by omega)

theorem tr_step {m p i : Nat} (hm : 1 ≤ m) (hm2 : m ≤ 16) (hp : p < m) : tr m p (i + 1) = tr m p i + if i % m = p then 1 else 0 := by
  unfold tr
  have hh : m = 1 ∨ m = 2 ∨ m = 3 ∨ m = 4 ∨ m = 5 ∨ m = 6 ∨ m = 7 ∨ m = 8 ∨ m = 9 ∨ m = 10 ∨ m = 11 ∨ m = 12 ∨ m = 13 ∨ m = 14 ∨ m = 15 ∨ m = 16 := by omega
  rcases hh with rfl | rfl | rfl | rfl | rfl | rfl | rfl | rfl | rfl | rfl | rfl | rfl | rfl | rfl | rfl | rfl <;> split <;> omega

theorem tr_many {m p len n : Nat} (hm : 1 ≤ m) (hp : p < m) (hn : 5 * m ≤ n) : tr m p len + 5 ≤ tr m p (len + n) := by
  have h1 := tr_mono (m := m) (p := p) (show len + 5 * m ≤ len + n by omega)
  have h2 : tr m p (len + 5 * m) = tr m p len + 5 := by
    unfold tr
    rw [show len + 5 * m + (m - 1) - p = (len + (m - 1) - p) + 5 * m by omega, Nat.add_mul_div_right _ _ (by omega)]
  omega

/-- From the len-th act on the m of them step by turns. -/
def Pr (m len i : Nat) (d : Dq) : Prop := ∀ p : Nat, p < m → (d.c p).k = 0 ∨ ((tr m p i : Nat) : Int) ≤ ((tr m p len : Nat) : Int) + (d.c p).s

theorem Pr.early {m len i b : Nat} {d : Dq} (h : i ≤ len) (hs : Sml b d) : Pr m len i d := by
  intro p _
  have h1 := tr_mono (m := m) (p := p) h
  have h2 := (hs.s p).1
  right
  omega

theorem Pr.step {m len i : Nat} {d : Dq} (h : Pr m len i d) (hm : 1 ≤ m) (hm2 : m ≤ 16) {w : Nat} (hw : w = i % m) : Pr m len (i + 1) (stepD d (w : Int)).2.2 := by
  subst hw
  have hlt : i % m < m := Nat.mod_lt _ hm
  by_cases hb : busyD d ((i % m : Nat) : Int) = true
  · obtain ⟨e, hk, _⟩ := stepD_busy hb
    rw [e]
    rw [Int.toNat_natCast] at hk ⊢
    obtain ⟨h1, h2, h3⟩ := stepB_c d (i % m)
    intro p hp
    rw [tr_step hm hm2 hp]
    by_cases ep : i % m = p
    · subst ep
      rw [if_pos rfl]
      by_cases e0 : (stepB d (i % m)).1 = 0
      · rw [(h2 e0).1, (h2 e0).2]
        rcases h _ hp with h | h
        · exact absurd h hk
        · right; omega
      · left; rw [h3 e0]; rfl
    · rw [if_neg ep, h1 p (fun e => ep e.symm)]
      simpa using h p hp
  · rw [stepD_idle hb]
    intro p hp
    rw [tr_step hm hm2 hp]
    by_cases ep : i % m = p
    · subst ep
      left
      unfold busyD at hb
      rw [decide_eq_true (by omega), Int.toNat_natCast] at hb
      simpa using hb
    · rw [if_neg ep]
      simpa using h p hp

theorem Pr.done {m len n : Nat} {d : Dq} {H : List Int} (h : Pr m len (len + n) d) (hJ : J d H) (hm : 1 ≤ m) (hn : 5 * m ≤ n) : ∀ p, p < m → (d.c p).k = 0 := by
  intro p hp
  rcases h p hp with h | h
  · exact h
  · by_cases hk : (d.c p).k = 0
    · exact hk
    · have h1 := hJ.s_le p hk
      have h2 := tr_many (len := len) hm hp hn
      omega

/-- In the end: what is left. -/
theorem OI.last {i : Nat} {d : Dq} {X : List Int} {nx m len n : Nat} (h : OI i d X nx) (hp : Pr m len (len + n) d) (hm : 1 ≤ m) (hn : 5 * m ≤ n) : Acc (itemsD d) X nx := by
  obtain ⟨H, hJ, hA⟩ := h.acc
  rw [hJ.items (hp.done hJ hm hn 0 (by omega))] at hA
  exact hA

/-- What is left, the first of it looked at. -/
theorem Acc.next {H X : List Int} {nx : Nat} (h : Acc H X nx) {k : Nat} (hk : k < H.length) : 1 ≤ H[k] ∧ H[k] < (nx : Int) ∧ (H.take k ++ X).count H[k] = 0 := by
  have h1 := h.1 H[k]
  have hs : H = H.take k ++ H[k] :: H.drop (k + 1) := by simp
  have hc : List.count H[k] H = List.count H[k] (H.take k) + (1 + List.count H[k] (H.drop (k + 1))) := by
    have h2 := congrArg (List.count H[k]) hs
    rw [List.count_append, List.count_cons_self] at h2
    omega
  have h4 : 1 ≤ H[k] ∧ H[k] < (nx : Int) := by
    by_cases e : 1 ≤ H[k] ∧ H[k] < (nx : Int)
    · exact e
    · rw [if_neg e] at h1; omega
  rw [if_pos h4] at h1
  refine ⟨h4.1, h4.2, ?_⟩
  rw [List.count_append]
  omega

theorem tk_perm {n : Nat} {X Y : List Int} (h : X.Perm Y) : tk n X = tk n Y := by
  unfold tk
  refine List.map_congr_left fun j _ => ?_
  rw [h.count_eq]

theorem tk_next {n k : Nat} {H X : List Int} (hk : k < H.length) : tk n (H[k] :: (H.take k ++ X)) = tk n (H.take (k + 1) ++ X) := by
  refine tk_perm ?_
  rw [List.take_succ_eq_append_getElem hk, List.append_assoc]
  exact List.perm_middle.symm
end Go.Proofs.Ytaooglcjcnkgnaa
