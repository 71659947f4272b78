/- Each step keeps what a deque holds, but for the item that it answers. -/
import Derived.Test.YtaooglcjcnkgnaaPro
namespace Go.Proofs.Ytaooglcjcnkgnaa
open Go.RowKit Go.ChangeShapes Go.WideShapes Go.ChangeAt Go.Deep

theorem plc_ne {n : Nat} (h : 1 ≤ n) {x y : Int} (h1 : x < y) (h2 : y - x < n) : plc n x ≠ plc n y := by
  intro e
  have h2' : ((plc n x : Nat) : Int) = ((plc n y : Nat) : Int) := by rw [e]
  rw [plc_cast h, plc_cast h] at h2'
  have e1 := Int.emod_add_mul_ediv x (n : Int)
  have e2 := Int.emod_add_mul_ediv y (n : Int)
  have h6 : (n : Int) * (y / (n : Int) - x / (n : Int)) = y - x := by rw [Int.mul_sub]; omega
  have h7 : (n : Int) ∣ y - x := ⟨_, h6.symm⟩
  have h8 := Int.le_of_dvd (by omega) h7
  omega

theorem growK_length (n m : Nat) (L : List Int) (f : Int) (k : Nat) : (growK n m L f k).length = m := by
  induction k with
  | zero => simp [growK]
  | succ k ih => simp [growK, ih]

theorem growK_at (n m : Nat) (L : List Int) (f : Int) (hm : 1 ≤ m) : ∀ k, k ≤ m → ∀ i : Nat, i < k → (growK n m L f k).getD (plc m (f + (i : Int))) 0 = L.getD (plc n (f + (i : Int))) 0 := by
  intro k
  induction k with
  | zero => intro _ i hi; omega
  | succ k ih =>
    intro hk i hi
    show ((growK n m L f k).set (plc m (f + (k : Int))) (L.getD (plc n (f + (k : Int))) 0)).getD (plc m (f + (i : Int))) 0 = _
    by_cases e : i = k
    · subst e
      have := plc_lt hm (f + (i : Int))
      simp [List.getD, growK_length, this]
    · have hne := plc_ne hm (x := f + (i : Int)) (y := f + (k : Int)) (by omega) (by omega)
      rw [List.getD, List.getElem?_set_ne (fun e => hne e.symm), ← List.getD]
      exact ih (by omega) i (by omega)

theorem OwnS.lim_ge {top : Int} {n : Nat} {f : Int → Int} {c : Cl} {bot B lim : Int} {P : List Int} (h : OwnS top n f c bot B lim P) : bot ≤ lim := by
  cases h <;> omega

theorem OwnS.mono {top top' : Int} {n : Nat} {f : Int → Int} {c : Cl} {bot B lim : Int} {P : List Int} (h : OwnS top n f c bot B lim P) (h1 : top ≤ top') (h2 : top' ≤ lim) : OwnS top' n f c bot B lim P := by
  cases h
  · exact .idle ..
  · exact .push0 ..
  · exact .push1 ..
  · exact .push2 _ _ _ _ _ (by omega)
  · exact .push3 _ _ _ _ _ (by omega) (by assumption)
  · exact .pop0 ..
  · exact .pop1 ..
  · exact .pop2a _ _ _ _ _ (by omega)
  · exact .pop2b _ _ _ _ (by omega)
  · rename_i v won i h3 h4
    exact .pop3 _ _ _ _ (by omega) (fun e => h4 (by omega))
  · exact .pop4 _ _ _ _ (by omega)

/-- The owner does a step; the ring stays. -/
theorem Jx.mk0 {d : Dq} {B lim : Int} {P : List Int} (h : Jx d B lim P) (x : Cl) (top' bot' B' lim' : Int) (P' : List Int) (own : OwnS top' d.n (atD d) x bot' B' lim' P') (h1 : top' ≤ lim') (h2 : lim' ≤ B') (h3 : B' - top' ≤ (d.n : Int) - 1) (ht : d.top ≤ top') (hl : top' = d.top → d.top < lim → d.top < lim') : Jx (d.mk' 0 top' bot' d.n d.L x) B' lim' P' := by
  have h0 := h.top
  refine ⟨by rw [mk_c]; exact own, (show 0 ≤ top' by omega), h1, h2, h3, h.n4, h.len, fun p hp => ?_⟩
  rw [mk_o _ _ _ _ _ _ _ _ (by omega)]
  exact (h.th p hp).mono ht fun e hlt => ⟨by have e2 : top' = d.top := e; have := hl e2 hlt; omega, rfl⟩

/-- A thief does a step. -/
theorem Jx.mkp {d : Dq} {B lim : Int} {P : List Int} (h : Jx d B lim P) {p : Nat} (hp : 1 ≤ p) (x : Cl) (top' : Int) (ht : top' = d.top ∨ top' = d.top + 1 ∧ d.top < lim) (hx : ThS top' lim (atD d) x) : Jx (d.mk' p top' d.bot d.n d.L x) B lim P := by
  have h0 := h.top
  have h1 := h.tlim
  have h2 := h.room
  refine ⟨?_, (show 0 ≤ top' by omega), (show top' ≤ lim by omega), h.lb, (show B - top' ≤ (d.n : Int) - 1 by omega), h.n4, h.len, fun q hq => ?_⟩
  · rw [mk_o _ _ _ _ _ _ _ _ (by omega)]
    exact h.own.mono (show d.top ≤ top' by omega) (show top' ≤ lim by omega)
  · by_cases e : q = p
    · subst e
      rw [mk_c]
      exact hx
    · rw [mk_o _ _ _ _ _ _ _ _ e]
      exact (h.th q hq).mono (show d.top ≤ top' by omega) fun e hlt => by
        have e2 : top' = d.top := e
        exact ⟨by omega, rfl⟩

theorem ThS.zero (top lim : Int) (f : Int → Int) : ThS top lim f Cl.zero := .inl rfl

/-- What a step does to what is held: the item that is answered goes. -/
structure StepJ (d : Dq) (p : Nat) (H : List Int) (r : Int × Int × Dq) (H' : List Int) : Prop where
  j : J r.2.2 H'
  item0 : r.1 = 2 → p = 0 → H = H' ++ [r.2.1]
  itemp : r.1 = 2 → p ≠ 0 → H = r.2.1 :: H'
  same : r.1 ≠ 2 → H' = H
  none : p = 0 → (d.c 0).k = 2 → r.1 = 3 → H' = []

theorem StepJ.item {d : Dq} {p : Nat} {H H' : List Int} {r : Int × Int × Dq} (h : StepJ d p H r H') (h2 : r.1 = 2) : H.Perm (r.2.1 :: H') := by
  by_cases e : p = 0
  · rw [h.item0 h2 e]; exact List.perm_append_comm
  · rw [h.itemp h2 e]

theorem StepJ.keep {d : Dq} {p : Nat} {H H' : List Int} {r : Int × Int × Dq} (h : StepJ d p H r H') (h2 : r.1 ≠ 2) : H.Perm H' := by rw [h.same h2]

theorem StepJ.mk0 {d d' : Dq} {p : Nat} {B lim : Int} {P : List Int} {a v : Int} (h : Jx d' B lim P) (ha : a ≠ 2) (h3 : p = 0 → (d.c 0).k = 2 → a = 3 → sg (atD d') d'.top (B - d'.top).toNat ++ P = []) {H : List Int} (hH : H = sg (atD d') d'.top (B - d'.top).toNat ++ P) : StepJ d p H (a, v, d') H :=
  ⟨⟨B, lim, P, h, hH⟩, fun e => absurd e ha, fun e => absurd e ha, fun _ => rfl, fun e1 e2 e3 => by rw [hH]; exact h3 e1 e2 e3⟩

theorem Jx.step0 {d : Dq} {bt B lim : Int} {P : List Int} {c : Cl} (h : Jx d B lim P) (hc : d.c 0 = c) (hbt : d.bot = bt) (ho : OwnS d.top d.n (atD d) c bt B lim P) (hk : c.k ≠ 0) (hb : bt ≤ 30000) :
    ∃ H', StepJ d 0 (sg (atD d) d.top (B - d.top).toNat ++ P) (stepB d 0) H' := by
  have h0 := h.top
  have h1 := h.tlim
  have h2 := h.room
  have h4 := h.n4
  have hlb := h.lb
  have h5 := h.len
  cases ho
  · simp at hk
  · -- push0
    rw [sp0 hc, hbt]
    exact ⟨_, StepJ.mk0 (h.mk0 _ _ _ _ _ _ (.push1 ..) h1 (by omega) h2 (by omega) (fun _ h => h)) (by omega) (fun _ e => by rw [hc] at e; simp at e) rfl⟩
  · -- push1
    rename_i t v won i
    by_cases hg : (d.n : Int) - 1 ≤ bt - d.top
    · rw [sp1g hc hg, hbt]
      have hz : gsz d.n = 2 * d.n := by unfold gsz; rw [if_neg (by omega)]
      have hcn : cnt d.n d.top bt = (bt - d.top).toNat := by unfold cnt; omega
      have hf : ∀ j : Nat, j < (bt - d.top).toNat → atD (d.mk' 0 d.top bt (gsz d.n) (growK d.n (gsz d.n) d.L d.top (cnt d.n d.top bt)) ⟨bt, d.top, v, won, 1, i, 2⟩) (d.top + j) = atD d (d.top + j) := by
        intro j hj
        exact growK_at d.n (gsz d.n) d.L d.top (by omega) _ (by omega) j (by omega)
      refine ⟨_, StepJ.mk0 (d' := d.mk' 0 d.top bt (gsz d.n) (growK d.n (gsz d.n) d.L d.top (cnt d.n d.top bt)) ⟨bt, d.top, v, won, 1, i, 2⟩) (B := bt) (lim := bt) (P := [i]) ⟨by rw [mk_c]; exact .push2 _ _ _ _ _ (show bt - d.top ≤ (gsz d.n : Int) - 2 by omega), h0, h1, by omega, (show bt - d.top ≤ (gsz d.n : Int) - 1 by omega), (show 4 ≤ gsz d.n by omega), growK_length _ _ _ _ _, fun p hp => ?_⟩ (by omega) (fun _ e => by rw [hc] at e; simp at e) ?_⟩
      · rw [mk_o _ _ _ _ _ _ _ _ (by omega)]
        refine (h.th p hp).mono (Int.le_refl _) fun _ hlt => ⟨hlt, ?_⟩
        have := hf 0 (by omega)
        simpa using this
      · rw [show sg (atD d) d.top (bt - d.top).toNat = sg (atD (d.mk' 0 d.top bt (gsz d.n) (growK d.n (gsz d.n) d.L d.top (cnt d.n d.top bt)) ⟨bt, d.top, v, won, 1, i, 2⟩)) d.top (bt - d.top).toNat from sg_congr fun j hj => (hf j hj).symm]
        rfl
    · rw [sp1 hc hg, hbt]
      exact ⟨_, StepJ.mk0 (h.mk0 _ _ _ _ _ _ (.push2 _ _ _ _ _ (by omega)) h1 (by omega) h2 (by omega) (fun _ h => h)) (by omega) (fun _ e => by rw [hc] at e; simp at e) rfl⟩
  · -- push2
    rename_i t v won i hr
    rw [sp2 hc, hbt]
    have hpl := plc_lt (n := d.n) (by omega) bt
    have hfb : atD (d.mk' 0 d.top bt d.n (d.L.set (plc d.n bt) i) ⟨bt, t, v, won, 1, i, 3⟩) bt = i := by
      show (d.L.set (plc d.n bt) i).getD (plc d.n bt) 0 = i
      simp [List.getD, h5, hpl]
    have hf : ∀ j : Nat, j < (bt - d.top).toNat → atD (d.mk' 0 d.top bt d.n (d.L.set (plc d.n bt) i) ⟨bt, t, v, won, 1, i, 3⟩) (d.top + j) = atD d (d.top + j) := by
      intro j hj
      show (d.L.set (plc d.n bt) i).getD (plc d.n (d.top + j)) 0 = d.L.getD (plc d.n (d.top + j)) 0
      have hne := plc_ne (n := d.n) (by omega) (x := d.top + (j : Int)) (y := bt) (by omega) (by omega)
      rw [List.getD, List.getElem?_set_ne (fun e => hne e.symm), ← List.getD]
    refine ⟨_, StepJ.mk0 (d' := d.mk' 0 d.top bt d.n (d.L.set (plc d.n bt) i) ⟨bt, t, v, won, 1, i, 3⟩) (B := bt) (lim := bt) (P := [i]) ⟨by rw [mk_c]; exact .push3 _ _ _ _ _ hr hfb, h0, h1, by omega, h2, h4, by simp [Dq.mk', h5], fun p hp => ?_⟩ (by omega) (fun _ e => by rw [hc] at e; simp at e) ?_⟩
    · rw [mk_o _ _ _ _ _ _ _ _ (by omega)]
      refine (h.th p hp).mono (Int.le_refl _) fun _ hlt => ⟨hlt, ?_⟩
      have := hf 0 (by omega)
      simpa using this
    · rw [show sg (atD d) d.top (bt - d.top).toNat = sg (atD (d.mk' 0 d.top bt d.n (d.L.set (plc d.n bt) i) ⟨bt, t, v, won, 1, i, 3⟩)) d.top (bt - d.top).toNat from sg_congr fun j hj => (hf j hj).symm]
      rfl
  · -- push3
    rename_i t v won i hr hi
    rw [sp3 hc]
    refine ⟨_, StepJ.mk0 (h.mk0 Cl.zero d.top (bt + 1) (bt + 1) (bt + 1) [] (.idle ..) (by omega) (by omega) (by omega) (by omega) (fun _ h => by omega)) (by omega) (fun _ e => by rw [hc] at e; simp at e) ?_⟩
    show sg (atD d) d.top (bt - d.top).toNat ++ [i] = sg (atD d) d.top (bt + 1 - d.top).toNat ++ []
    rw [show (bt + 1 - d.top).toNat = (bt - d.top).toNat + 1 by omega, sg_succ, List.append_nil, show d.top + ((bt - d.top).toNat : Int) = bt by omega, hi]
  · -- pop0
    rename_i b t v won i
    rw [so0 hc, hbt]
    refine ⟨_, StepJ.mk0 (h.mk0 ⟨bt - 1, t, v, won, 2, i, 1⟩ d.top (bt - 1) (bt - 1 + 1) (bt - 1 + 1) [] (.pop1 ..) (by omega) (by omega) (by omega) (by omega) (fun _ h => by omega)) (by omega) (fun _ _ e => by omega) ?_⟩
    rw [show bt - 1 + 1 = bt by omega]
    rfl
  · -- pop1
    rename_i t v won i
    by_cases hlt : bt < d.top
    · rw [so1e hc hlt]
      refine ⟨_, StepJ.mk0 (h.mk0 Cl.zero d.top d.top d.top d.top [] (.idle ..) (by omega) (by omega) (by omega) (by omega) (fun _ h => by omega)) (by omega) (fun _ _ _ => ?_) ?_⟩
      · show sg (atD d) d.top (d.top - d.top).toNat ++ [] = []
        simp [sg]
      · show sg (atD d) d.top (bt + 1 - d.top).toNat ++ [] = sg (atD d) d.top (d.top - d.top).toNat ++ []
        rw [show (bt + 1 - d.top).toNat = (d.top - d.top).toNat by omega]
    · rw [so1 hc hlt, hbt]
      by_cases he : d.top < bt
      · refine ⟨_, StepJ.mk0 (h.mk0 ⟨bt, d.top, v, won, 2, i, 2⟩ d.top bt (bt + 1) bt [] (.pop2a _ _ _ _ _ he) (by omega) (by omega) (by omega) (by omega) (fun _ h => by omega)) (by omega) (fun _ _ e => by omega) rfl⟩
      · have e : d.top = bt := by omega
        refine ⟨_, StepJ.mk0 (h.mk0 ⟨bt, d.top, v, won, 2, i, 2⟩ d.top bt (bt + 1) (bt + 1) [] (by rw [e]; exact .pop2b _ _ _ _ (by omega)) (by omega) (by omega) (by omega) (by omega) (fun _ h => by omega)) (by omega) (fun _ _ e => by omega) rfl⟩
  · -- pop2a
    rename_i t v won i hlt
    rw [so2i hc hlt, hbt]
    refine ⟨sg (atD d) d.top (bt - d.top).toNat ++ [], ⟨bt, bt, [], h.mk0 Cl.zero d.top bt bt bt [] (.idle ..) (by omega) (by omega) (by omega) (by omega) (fun _ h => by omega), rfl⟩, fun _ _ => ?_, fun _ e => absurd rfl e, fun e => absurd rfl e, fun _ _ e => by simp at e⟩
    show sg (atD d) d.top (bt + 1 - d.top).toNat ++ [] = (sg (atD d) d.top (bt - d.top).toNat ++ []) ++ [atD d bt]
    rw [show (bt + 1 - d.top).toNat = (bt - d.top).toNat + 1 by omega, sg_succ, List.append_nil, List.append_nil, show d.top + ((bt - d.top).toNat : Int) = bt by omega]
  · -- pop2b
    rename_i v won i hle
    rw [so2 hc (by omega), hbt]
    exact ⟨_, StepJ.mk0 (h.mk0 ⟨bt, bt, atD d bt, won, 2, i, 3⟩ d.top bt (bt + 1) (bt + 1) [] (.pop3 _ _ _ _ hle (fun _ => rfl)) (by omega) (by omega) (by omega) (by omega) (fun _ h => by omega)) (by omega) (fun _ _ e => by omega) rfl⟩
  · -- pop3
    rename_i v won i hle hv
    by_cases he : d.top = bt
    · rw [so3w hc he, hbt]
      refine ⟨_, StepJ.mk0 (h.mk0 ⟨bt, bt, v, true, 2, i, 4⟩ (bt + 1) bt (bt + 1) (bt + 1) [v] (.pop4 _ _ _ _ rfl) (by omega) (by omega) (by omega) (by omega) (fun _ h => by omega)) (by omega) (fun _ _ e => by omega) ?_⟩
      show sg (atD d) d.top (bt + 1 - d.top).toNat ++ [] = sg (atD d) (bt + 1) (bt + 1 - (bt + 1)).toNat ++ [v]
      rw [show (bt + 1 - d.top).toNat = 1 by omega, show (bt + 1 - (bt + 1)).toNat = 0 by omega, hv he]
      simp [sg, he]
    · rw [so3l hc he, hbt]
      exact ⟨_, StepJ.mk0 (h.mk0 ⟨bt, bt, v, false, 2, i, 4⟩ d.top bt (bt + 1) (bt + 1) [] (.pop4 v false _ _ (by omega)) (by omega) (by omega) (by omega) (by omega) (fun _ h => by omega)) (by omega) (fun _ _ e => by omega) rfl⟩
  · -- pop4
    rename_i v won i ht
    cases won
    · rw [so4l hc rfl]
      refine ⟨_, StepJ.mk0 (h.mk0 Cl.zero d.top (bt + 1) (bt + 1) (bt + 1) [] (.idle ..) (by omega) (by omega) (by omega) (by omega) (fun _ h => by omega)) (by omega) (fun _ _ _ => ?_) rfl⟩
      show sg (atD d) d.top (bt + 1 - d.top).toNat ++ [] = []
      rw [show (bt + 1 - d.top).toNat = 0 by omega]
      rfl
    · rw [so4w hc rfl]
      refine ⟨sg (atD d) d.top (bt + 1 - d.top).toNat ++ [], ⟨bt + 1, bt + 1, [], h.mk0 Cl.zero d.top (bt + 1) (bt + 1) (bt + 1) [] (.idle ..) (by omega) (by omega) (by omega) (by omega) (fun _ h => by omega), rfl⟩, fun _ _ => ?_, fun _ e => absurd rfl e, fun e => absurd rfl e, fun _ _ e => by simp at e⟩
      show sg (atD d) d.top (bt + 1 - d.top).toNat ++ [v] = (sg (atD d) d.top (bt + 1 - d.top).toNat ++ []) ++ [v]
      rw [List.append_nil]

theorem Jx.stepP {d : Dq} {B lim : Int} {P : List Int} (h : Jx d B lim P) {p : Nat} (hp : 1 ≤ p) (hk : (d.c p).k ≠ 0) :
    ∃ H', StepJ d p (sg (atD d) d.top (B - d.top).toNat ++ P) (stepB d p) H' := by
  have h0 := h.top
  have h1 := h.tlim
  have h2 := h.room
  have h4 := h.n4
  have hlb := h.lb
  have hlg := h.own.lim_ge
  have ht := h.th p hp
  have hp0 : p ≠ 0 := by omega
  rcases ht with ht | ⟨hk3, ht⟩
  · exact absurd ht hk
  obtain ⟨c, hc⟩ : ∃ c, d.c p = c := ⟨_, rfl⟩
  rw [hc] at hk3 ht
  obtain ⟨b, t, v, won, k, i, s⟩ := c
  simp only at hk3 ht
  subst hk3
  rcases ht with hs | ⟨hs1, hs3, ht1, ht2, ht3⟩
  · subst hs
    rw [ss0 hc]
    exact ⟨_, StepJ.mk0 (h.mkp hp ⟨b, d.top, v, won, 3, i, 1⟩ d.top (.inl rfl) (.inr ⟨rfl, .inr ⟨by simp, by simp, Int.le_refl _, fun e => by simp at e, fun e => by simp at e⟩⟩)) (by omega) (fun e => absurd e hp0) rfl⟩
  have hs : s = 1 ∨ s = 2 ∨ s = 3 := by omega
  rcases hs with rfl | rfl | rfl
  · by_cases hlt : d.bot - t < 1
    · rw [ss1e hc hlt]
      exact ⟨_, StepJ.mk0 (h.mkp hp Cl.zero d.top (.inl rfl) (ThS.zero _ _ _)) (by omega) (fun e => absurd e hp0) rfl⟩
    · rw [ss1 hc hlt]
      exact ⟨_, StepJ.mk0 (h.mkp hp ⟨d.bot, t, v, won, 3, i, 2⟩ d.top (.inl rfl) (.inr ⟨rfl, .inr ⟨by simp, by simp, ht1, fun _ (e : t = d.top) => by omega, fun e => by simp at e⟩⟩)) (by omega) (fun e => absurd e hp0) rfl⟩
  · rw [ss2 hc]
    exact ⟨_, StepJ.mk0 (h.mkp hp ⟨b, t, atD d t, won, 3, i, 3⟩ d.top (.inl rfl) (.inr ⟨rfl, .inr ⟨by simp, by simp, ht1, fun _ e => ht2 (by omega) e, fun _ (e : t = d.top) => by rw [e]⟩⟩)) (by omega) (fun e => absurd e hp0) rfl⟩
  · by_cases he : d.top = t
    · rw [ss3 hc he]
      have hl := ht2 (by omega) he.symm
      refine ⟨sg (atD d) (t + 1) (B - (t + 1)).toNat ++ P, ⟨B, lim, P, h.mkp hp Cl.zero (t + 1) (.inr ⟨by omega, hl⟩) (ThS.zero _ _ _), rfl⟩, fun _ e => absurd e hp0, fun _ _ => ?_, fun e => absurd rfl e, fun e => absurd e hp0⟩
      show sg (atD d) d.top (B - d.top).toNat ++ P = v :: (sg (atD d) (t + 1) (B - (t + 1)).toNat ++ P)
      rw [show (B - d.top).toNat = (B - (t + 1)).toNat + 1 by omega, sg_cons, ht3 rfl he.symm, ← he]
      rfl
    · rw [ss3l hc he]
      exact ⟨_, StepJ.mk0 (h.mkp hp Cl.zero d.top (.inl rfl) (ThS.zero _ _ _)) (by omega) (fun e => absurd e hp0) rfl⟩

theorem J.stepB {d : Dq} {H : List Int} (h : J d H) {p : Nat} (hk : (d.c p).k ≠ 0) (hb : d.bot ≤ 30000) : ∃ H', StepJ d p H (stepB d p) H' := by
  obtain ⟨B, lim, P, hx, rfl⟩ := h
  by_cases hp : p = 0
  · subst hp
    exact hx.step0 rfl rfl hx.own hk hb
  · exact hx.stepP (by omega) hk
end Go.Proofs.Ytaooglcjcnkgnaa
