/- LinkOrder, plain; a link whose blocks keep to a set. -/
import Derived.Test.YtofigofaiadffaaAlv
namespace Go.Proofs.Ytofigofaiadffaa
open Go.RowKit Go.ChangeShapes Go.WideShapes Go.ChangeAt Go.Deep

/-- A link all of whose blocks are in P; nothing of w0 is written. -/
def LX (P : Nat → Prop) (w0 w : World) (g : Nat) (s : Lk) : Prop := (∃ D, LinkP D w g s ∧ ∀ k, D k → P k) ∧ Below w0.heap.size w0 w
theorem LX.below {P : Nat → Prop} {w0 w w' : World} {g : Nat} {s : Lk} (h : LX P w0 w g s) (hb : Below w.heap.size w w') : LX P w0 w' g s := by
  obtain ⟨⟨D, h1, h2⟩, h3⟩ := h
  exact ⟨⟨D, h1.below hb, h2⟩, h3.trans (hb.mono h3.size)⟩
theorem LX.next {P D : Nat → Prop} {w0 w w' : World} {g : Nat} {s : Lk} (hb : Below w0.heap.size w0 w) (hP : ∀ k, P k → w0.heap.size ≤ k) (hN : ∀ k, w.heap.size ≤ k → P k) (hD : ∀ k, D k → P k) (hg : P g) (h : LinkP (Ex D w w') w' g s) (hk : Kp (fun k => k = g) w w') : LX P w0 w' g s := by
  refine ⟨⟨_, h, fun k hd => hd.elim (hD k) fun h1 => hN k h1.1⟩, hb.trans (hk.to_below hb.size (fun k e => by subst e; exact hP k hg))⟩
theorem outX (P : Nat → Prop) (w0 w : World) (g : Nat) (s : Lk) (now : Int) (hP : ∀ k, P k → w0.heap.size ≤ k) (hN : ∀ k, w.heap.size ≤ k → P k) (h : LX P w0 w g s) (hu : s.used ≤ 1000000) (hn : I64 now) :
    Calls Try.prog 15 #[.pointer (some ⟨g, 0, none⟩), .int .i64 now] w fun e w' => ∃ a c, e = .returned (.slice a (outF s now).length c) ∧ (∃ l, RowF w.heap.size w' a (outF s now).length c l ∧ l.map Fm.p = outF s now) ∧ LX P w0 w' g (outL s now) ∧ Kp (fun k => k = g) w w' := by
  obtain ⟨⟨D, h1, h2⟩, h3⟩ := h
  refine (out_any D g s now w h1 hu hn).mono ?_
  rintro e w' ⟨a, n, c, l, rfl, hR, hl, hp, hk⟩
  have hn : n = (outF s now).length := by rw [← hl, List.length_map, hR.1]
  subst hn
  exact ⟨a, c, rfl, ⟨l, hR, hl⟩, LX.next h3 hP hN h2 (h2 _ h1.dg) hp.toEx hk, hk⟩
theorem inX (P : Nat → Prop) (w0 w : World) (g : Nat) (s : Lk) (f : Fr) (a : Option Addr) (n c : Nat) (hP : ∀ k, P k → w0.heap.size ≤ k) (hN : ∀ k, w.heap.size ≤ k → P k) (h : LX P w0 w g s) (hu : s.used ≤ 1000000) (hcm : s.came ≤ 1000000) (hl : f.x.length = n) (hB : Byt f.x) (hr : Reads w a (bV f.x)) (hnil : a = none → n = 0 ∧ c = 0) (hne : ∀ ad, a = some ad → 0 < n → ad.block ≠ g) :
    Calls Try.prog 18 #[.pointer (some ⟨g, 0, none⟩), .agg #[.int .i64 f.fr, .int .i64 f.tt, .int .i64 f.lf, .int .i64 f.sq, .int .i64 f.ak, .slice a n c]] w fun e w' => ∃ b d, e = .returned (.tuple #[.slice b (inF s f).length d, .bool (forB s f)]) ∧ (∃ l, RowT P w.heap.size w' b (inF s f).length d l ∧ l.map Txt.bs = inF s f) ∧ LX P w0 w' g (inL s f) ∧ Kp (fun k => k = g) w w' := by
  obtain ⟨⟨D, h1, h2⟩, h3⟩ := h
  refine (in_any D g s f a n c w h1 hu hcm hl hB hr hnil hne).mono ?_
  rintro e w' ⟨b, m, d, l, rfl, hR, hl, hp, hk⟩
  have hm : m = (inF s f).length := by rw [← hl, List.length_map, hR.1]
  subst hm
  exact ⟨b, d, rfl, ⟨l, hR.mono (fun k hk => hk.1.elim (h2 k) fun h => hN k h.1) (Nat.le_refl _), hl⟩, LX.next h3 hP hN h2 (h2 _ h1.dg) hp hk, hk⟩

namespace linkOrder
def eaI (L : List Bool) : Nat → Option (List Nat) := fun k => if L.getD k false then some [k] else none
/-- The link when the loads L came in, C of them answered. -/
def sO (C : Nat) (L : List Bool) (o : Bool) : Lk := { newL 1 0 1 1 100 with came := C, ea := eaI L, owed := o }
def OI (n C : Nat) (L : List Bool) : Prop := L.length = 10 ∧ C ≤ n ∧ n ≤ 8 ∧ (∀ k, n < k → L.getD k false = false) ∧ (∀ k, 1 ≤ k → k ≤ C → L.getD k false = true) ∧ L.getD (C + 1) false = false
def fO (k : Nat) : Fr := ⟨0, 1, 1, k, 0, [k]⟩
theorem getD_set (L : List Bool) (k j : Nat) (h : k < L.length) : (L.set k true).getD j false = if j = k then true else L.getD j false := by
  by_cases e : j = k
  · subst e
    simp [List.getD, h]
  · simp [List.getD, e, Ne.symm e]
theorem keep_eaI (L : List Bool) (k : Nat) (h : k < L.length) : keepE (eaI L) k [k] = eaI (L.set k true) := by
  funext j
  unfold keepE
  by_cases hk : L.getD k false = true
  · rw [if_pos (by unfold eaI; rw [hk]; rfl)]
    unfold eaI
    rw [getD_set L k j h]
    by_cases e : j = k
    · subst e; rw [hk]; simp
    · rw [if_neg e]
  · rw [if_neg (by unfold eaI; rw [if_neg hk]; simp)]
    unfold eaI upd
    rw [getD_set L k j h]
    by_cases e : j = k
    · subst e; simp
    · simp [e]
theorem sO_for (C : Nat) (L : List Bool) (k : Nat) : forB (sO C L false) (fO k) = true := by
  unfold forB fO sO newL Lk.used
  simp
theorem close0 (C : Nat) (L : List Bool) (o : Bool) : closeL (sO C L o) 0 = sO C L o := by
  unfold closeL sO newL
  simp
/-- What a load that comes in makes. -/
theorem step {n C k : Nat} {L : List Bool} (h : OI n C L) (h1 : 1 ≤ k) (h2 : k ≤ n) : ∃ m, (inF (sO C L false) (fO k)).length = m ∧ (∀ j (hj : j < (inF (sO C L false) (fO k)).length), (inF (sO C L false) (fO k))[j] = [C + 1 + j] ∧ (L.set k true).getD (C + 1 + j) false = true) ∧ inL (sO C L false) (fO k) = sO (C + m) (L.set k true) true ∧ OI n (C + m) (L.set k true) := by
  obtain ⟨hl, hC, hn, hf, hb, hN⟩ := h
  have hkl : k < L.length := by omega
  have hF := sO_for C L k
  have hq : (fO k).sq = (k : Int) := rfl
  have hq0 : ¬ (fO k).sq = 0 := by rw [hq]; omega
  have hx : (fO k).x = [k] := rfl
  have hak : (fO k).ak = 0 := rfl
  have ec : (sO C L false).came = C := rfl
  have ee : (sO C L false).ea = eaI L := rfl
  have hgs := fun j => getD_set L k j hkl
  by_cases hk : k ≤ C
  · have hsame : ∀ j, (L.set k true).getD j false = L.getD j false := fun j => by
      rw [hgs]
      by_cases e : j = k
      · rw [if_pos e, e, hb k h1 hk]
      · rw [if_neg e]
    have hset : L.set k true = L := by
      apply List.ext_getElem?
      intro j
      by_cases e : j = k
      · subst e
        have h3 := hb j h1 hk
        simp [List.getD, hkl] at h3
        simp [hkl, h3]
      · simp [Ne.symm e]
    have hc : (fO k).sq ≤ ((sO C L false).came : Int) ∨ ((sO C L false).came : Int) + 8 < (fO k).sq := by rw [hq, ec]; omega
    have e1 : inF (sO C L false) (fO k) = [] := by unfold inF; rw [if_pos hF, if_neg hq0, hak, close0]; unfold accF; rw [if_pos hc]
    have e2 : inL (sO C L false) (fO k) = sO C L true := by unfold inL; rw [if_pos hF, if_neg hq0, hak, close0]; unfold accL; rw [if_pos hc]; rfl
    refine ⟨0, by rw [e1]; rfl, fun j hj => by rw [e1] at hj; simp at hj, by rw [e2, hset]; rfl, ?_⟩
    rw [hset]
    exact ⟨hl, hC, hn, hf, hb, hN⟩
  · have hc : ¬ ((fO k).sq ≤ ((sO C L false).came : Int) ∨ ((sO C L false).came : Int) + 8 < (fO k).sq) := by rw [hq, ec]; omega
    have e1 : inF (sO C L false) (fO k) = ordF (eaI (L.set k true)) 8 C := by
      unfold inF
      rw [if_pos hF, if_neg hq0, hak, close0]
      unfold accF
      rw [if_neg hc, hq, hx, ee, ec, Int.toNat_natCast, keep_eaI L k hkl]
    have e2 : inL (sO C L false) (fO k) = sO (C + (ordF (eaI (L.set k true)) 8 C).length) (L.set k true) true := by
      unfold inL
      rw [if_pos hF, if_neg hq0, hak, close0]
      unfold accL
      rw [if_neg hc, hq, hx, ee, ec, Int.toNat_natCast, keep_eaI L k hkl]
      rfl
    have hall : ∀ j (hj : j < (ordF (eaI (L.set k true)) 8 C).length), (ordF (eaI (L.set k true)) 8 C)[j] = [C + 1 + j] ∧ (L.set k true).getD (C + 1 + j) false = true := fun j hj => by
      have h3 := ordF_lt (eaI (L.set k true)) 8 C j hj
      unfold eaI at h3
      cases h4 : (L.set k true).getD (C + 1 + j) false
      · rw [h4] at h3; simp at h3
      · rw [h4] at h3; simp at h3; exact ⟨h3.symm, rfl⟩
    have hfar : ∀ j, n < j → (L.set k true).getD j false = false := fun j hj => by rw [hgs, if_neg (by omega)]; exact hf j hj
    have hle : C + (ordF (eaI (L.set k true)) 8 C).length ≤ n := by
      rcases Nat.eq_zero_or_pos (ordF (eaI (L.set k true)) 8 C).length with h0 | h0
      · omega
      · have h3 := (hall ((ordF (eaI (L.set k true)) 8 C).length - 1) (by omega)).2
        rcases Nat.lt_or_ge n (C + (ordF (eaI (L.set k true)) 8 C).length) with h4 | h4
        · rw [hfar _ (by omega)] at h3; cases h3
        · exact h4
    refine ⟨_, by rw [e1], fun j hj => ?_, e2, by rw [List.length_set]; exact hl, hle, hn, hfar, fun j h3 h4 => ?_, ?_⟩
    · have hj' : j < (ordF (eaI (L.set k true)) 8 C).length := by rw [e1] at hj; exact hj
      have h5 := hall j hj'
      refine ⟨?_, h5.2⟩
      have h6 := h5.1
      simp only [e1]
      exact h6
    · rcases Nat.lt_or_ge C j with h5 | h5
      · have h6 := (hall (j - C - 1) (by omega)).2
        rw [show C + 1 + (j - C - 1) = j by omega] at h6
        exact h6
      · rw [hgs]
        split
        · rfl
        · exact hb j h3 h5
    · rcases Nat.lt_or_ge (ordF (eaI (L.set k true)) 8 C).length 8 with h3 | h3
      · have h4 := ordF_end (eaI (L.set k true)) 8 C h3
        rw [show C + (ordF (eaI (L.set k true)) 8 C).length + 1 = C + 1 + (ordF (eaI (L.set k true)) 8 C).length by omega]
        unfold eaI at h4
        unfold eaI
        cases h5 : (L.set k true).getD (C + 1 + (ordF (fun k_1 => if (L.set k true).getD k_1 false = true then some [k_1] else none) 8 C).length) false
        · rfl
        · rw [h5] at h4; simp at h4
      · exact hfar _ (by omega)
theorem out1 (C : Nat) (L : List Bool) (t : Int) : outF (sO C L true) t = [⟨1, 0, 1, 0, C, []⟩] ∧ outL (sO C L true) t = sO C L false := by
  constructor <;> rfl
theorem out2 (C : Nat) (L : List Bool) (t : Int) : outF (sO C L false) t = [] ∧ outL (sO C L false) t = sO C L false := by
  constructor <;> rfl
theorem sO_used (C : Nat) (L : List Bool) (o : Bool) : (sO C L o).used ≤ 1000000 := by show 0 + 0 ≤ 1000000; omega
end linkOrder
end Go.Proofs.Ytofigofaiadffaa
