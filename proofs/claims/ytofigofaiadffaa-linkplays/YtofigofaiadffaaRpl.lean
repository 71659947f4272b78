/- LinkPlays: the link and the document's tell the same, plain. -/
import Derived.Test.YtofigofaiadffaaRac
namespace Go.Proofs.Ytofigofaiadffaa
open Go.RowKit Go.ChangeShapes Go.WideShapes Go.ChangeAt Go.Deep
namespace linkPlays

structure LR (s : Lk) (k : Kc) (r : Rl) (n : Nat) : Prop where
  last : k.last = s.last
  self : k.self = s.self
  peer : k.peer = s.peer
  life : k.life = s.life
  theirs : k.theirs = s.theirs
  seq : r.seq = s.acked + s.op.length
  all : r.all = s.came
  op : OpR (s.acked + 1) s.op r.op
  ow : r.ow = s.owed
  ea : ∀ m, s.came < m → s.ea m = look m r.kp
  nx : s.ea (s.came + 1) = none
  far : ∀ m, s.came + 8 < m → s.ea m = none
  b1 : s.acked + s.op.length ≤ n
  b2 : s.came ≤ 8 * n
  b3 : r.kp.length ≤ n
  b4 : ∀ p ∈ r.op, p.n ≤ n ∧ -(2 ^ 61) ≤ p.tt ∧ p.tt ≤ 2 ^ 61
theorem LR.new (self peer life theirs last : Int) : LR (newL self peer life theirs last) ⟨self, peer, life, theirs, last⟩ ⟨0, 0, [], [], false⟩ 0 :=
  ⟨rfl, rfl, rfl, rfl, rfl, rfl, rfl, trivial, rfl, fun _ _ => rfl, rfl, fun _ _ => rfl, Nat.le_refl _, Nat.le_refl _, Nat.le_refl _, fun p h => by cases h⟩
theorem LR.len {s : Lk} {k : Kc} {r : Rl} {n : Nat} (h : LR s k r n) : r.op.length = s.op.length := h.op.len
theorem LR.more {s : Lk} {k : Kc} {r : Rl} {n m : Nat} (h : LR s k r n) (hm : n ≤ m) : LR s k r m :=
  { h with b1 := Nat.le_trans h.b1 hm, b2 := by have := h.b2; omega, b3 := Nat.le_trans h.b3 hm, b4 := fun p hp => ⟨Nat.le_trans (h.b4 p hp).1 hm, (h.b4 p hp).2⟩ }

/-- Send. -/
theorem LR.send {s : Lk} {k : Kc} {r : Rl} {n : Nat} (h : LR s k r n) (x : List Nat) : rsendE k r x = sendE s x ∧ LR (sendL s x) k (rsendL k r x) (n + 1) := by
  have he : rsendE k r x = sendE s x := by
    unfold rsendE sendE Lk.used
    rw [h.last, h.seq, h.len]
  refine ⟨he, ?_⟩
  unfold sendL rsendL
  rw [he]
  split
  · have h1 := h.op.snoc x
    rw [show s.acked + 1 + s.op.length = r.seq + 1 by rw [h.seq]; omega] at h1
    refine ⟨h.last, h.self, h.peer, h.life, h.theirs, ?_, h.all, h1, h.ow, h.ea, h.nx, h.far, ?_, ?_, ?_, fun p hp => ?_⟩
    · show r.seq + 1 = s.acked + (s.op ++ [(⟨x, 0, 0⟩ : Op)]).length
      rw [h.seq]; simp; omega
    · show s.acked + (s.op ++ [(⟨x, 0, 0⟩ : Op)]).length ≤ n + 1
      have := h.b1
      simp; omega
    · have := h.b2; show s.came ≤ 8 * (n + 1); omega
    · have := h.b3; show r.kp.length ≤ n + 1; omega
    · have hp' : p ∈ r.op ++ [⟨r.seq + 1, 0, 0, x⟩] := hp
      rcases List.mem_append.1 hp' with h2 | h2
      · exact ⟨by have := (h.b4 p h2).1; omega, (h.b4 p h2).2⟩
      · rw [List.mem_singleton.1 h2]; simp
  · exact h.more (Nat.le_succ n)

/-- Out. -/
theorem LR.out {s : Lk} {k : Kc} {r : Rl} {n : Nat} (h : LR s k r n) (now : Int) (hn1 : -(2 ^ 61) ≤ now) (hn2 : now ≤ 2 ^ 61) : (routP now r).map (rfr k r) = outF s now ∧ LR (outL s now) k (routL now r) (n + 1) := by
  obtain ⟨h1, h2⟩ := h.op.out now
  have hP : routP now r = outP s now := by
    unfold routP outP
    rw [h2, h.ow]
  refine ⟨?_, ?_⟩
  · unfold outF
    rw [hP]
    refine List.map_congr_left fun p _ => ?_
    unfold rfr Lk.frame
    rw [h.self, h.peer, h.life, h.all]
  · refine ⟨h.last, h.self, h.peer, h.life, h.theirs, ?_, h.all, h1, ?_, h.ea, h.nx, h.far, ?_, ?_, ?_, fun p hp => ?_⟩
    · show r.seq = s.acked + (s.op.map (dueO now)).length
      rw [List.length_map]; exact h.seq
    · show (if (routP now r).isEmpty then r.ow else false) = (if (outP s now).isEmpty then s.owed else false)
      rw [hP, h.ow]
    · show s.acked + (s.op.map (dueO now)).length ≤ n + 1
      rw [List.length_map]; have := h.b1; omega
    · have := h.b2; show s.came ≤ 8 * (n + 1); omega
    · have := h.b3; show r.kp.length ≤ n + 1; omega
    · obtain ⟨q, hq, rfl⟩ := List.mem_map.1 hp
      have hb := h.b4 q hq
      unfold rgo
      split
      · exact ⟨by show q.n + 1 ≤ n + 1; omega, hn1, hn2⟩
      · exact ⟨by omega, hb.2⟩

theorem rord_len : ∀ f l c, (rord f l c).2.1.length ≤ l.length := by
  intro f
  induction f with
  | zero => intro l c; exact Nat.le_refl _
  | succ f ih =>
    intro l c
    unfold rord
    cases hs : spotK (c + 1) l with
    | none => exact Nat.le_refl _
    | some i =>
      have := ih (l.eraseIdx i) (c + 1)
      have := List.length_eraseIdx_le l i
      simp only
      omega
theorem ordF_len (ea : Nat → Option (List Nat)) : ∀ f c, (ordF ea f c).length ≤ f := by
  intro f
  induction f with
  | zero => intro c; exact Nat.le_refl _
  | succ f ih =>
    intro c
    unfold ordF
    cases ea (c + 1) with
    | none => exact Nat.zero_le _
    | some x => have := ih (c + 1); simp only [List.length_cons]; omega

theorem LR.forr {s : Lk} {k : Kc} {r : Rl} {n : Nat} (h : LR s k r n) (f : Fr) : rforB k r f = forB s f := by
  unfold rforB forB Lk.used
  rw [h.peer, h.self, h.theirs, h.seq]
/-- The closing. -/
theorem LR.close {s : Lk} {k : Kc} {r : Rl} {n : Nat} (h : LR s k r n) (f : Fr) (ha : f.ak ≤ ((s.acked + s.op.length : Nat) : Int)) : LR (closeL s f.ak) k (rcloseL r f) n := by
  have hle : f.ak.toNat - s.acked ≤ s.op.length := by omega
  have hop : OpR (s.acked + 1 + (f.ak.toNat - s.acked)) (s.op.drop (f.ak.toNat - s.acked)) (r.op.filter fun p => decide (f.ak < (p.sq : Int))) := by
    rcases h.op.close f.ak with h1 | h1
    · exact h1
    · omega
  have hak : max s.acked f.ak.toNat = s.acked + (f.ak.toNat - s.acked) := by omega
  refine ⟨h.last, h.self, h.peer, h.life, h.theirs, ?_, h.all, ?_, h.ow, h.ea, h.nx, h.far, ?_, h.b2, h.b3, fun p hp => h.b4 p (List.mem_filter.1 hp).1⟩
  · show r.seq = max s.acked f.ak.toNat + (s.op.drop (f.ak.toNat - s.acked)).length
    rw [List.length_drop, h.seq]; omega
  · show OpR (max s.acked f.ak.toNat + 1) _ _
    rw [hak, show s.acked + (f.ak.toNat - s.acked) + 1 = s.acked + 1 + (f.ak.toNat - s.acked) by omega]
    exact hop
  · show max s.acked f.ak.toNat + (s.op.drop (f.ak.toNat - s.acked)).length ≤ n
    rw [List.length_drop]
    have := h.b1
    omega
theorem LR.owe {s : Lk} {k : Kc} {r : Rl} {n : Nat} (h : LR s k r n) : LR { s with owed := true } k { r with ow := true } n :=
  ⟨h.last, h.self, h.peer, h.life, h.theirs, h.seq, h.all, h.op, rfl, h.ea, h.nx, h.far, h.b1, h.b2, h.b3, h.b4⟩
/-- A load is kept, and those in order come out. -/
theorem LR.keep {s : Lk} {k : Kc} {r : Rl} {n : Nat} (h : LR s k r n) (m : Nat) (x : List Nat) (h1 : s.came < m) (h2 : m ≤ s.came + 8) (hno : look m r.kp = none) :
    (rord (r.kp.length + 1) (r.kp ++ [(m, x)]) r.all).1 = ordF (keepE s.ea m x) 8 s.came ∧
    LR { s with owed := true, ea := keepE s.ea m x, came := s.came + (ordF (keepE s.ea m x) 8 s.came).length } k { r with ow := true, kp := (rord (r.kp.length + 1) (r.kp ++ [(m, x)]) r.all).2.1, all := (rord (r.kp.length + 1) (r.kp ++ [(m, x)]) r.all).2.2 } (n + 1) := by
  have he : s.ea m = none := (h.ea m h1).trans hno
  have hK : keepE s.ea m x = upd s.ea m (some x) := by unfold keepE; rw [he]; rfl
  rw [hK, h.all]
  have hea : ∀ j, s.came < j → upd s.ea m (some x) j = look j (r.kp ++ [(m, x)]) := fun j hj => by
    rw [look_app]
    by_cases q : j = m
    · subst q; rw [hno, upd_same]; simp [look]
    · rw [upd_ne _ _ _ _ q, h.ea j hj]
      have : ¬ m = j := fun e => q e.symm
      simp [look, this]
  have hfar : ∀ j, s.came + 8 < j → upd s.ea m (some x) j = none := fun j hj => by
    rw [upd_ne _ _ _ _ (by omega)]; exact h.far j hj
  have hl : (r.kp ++ [(m, x)]).length = r.kp.length + 1 := by simp
  obtain ⟨F, hF⟩ : ∃ F, F = r.kp.length + 9 := ⟨_, rfl⟩
  obtain ⟨e1, e2⟩ := rord_enough F (r.kp ++ [(m, x)]) s.came (by rw [hl]; omega)
  rw [hl] at e1
  obtain ⟨o1, o2, o3⟩ := rord_ord (upd s.ea m (some x)) F (r.kp ++ [(m, x)]) s.came hea
  have hm := ordF_more (upd s.ea m (some x)) 8 F s.came (by omega) hfar
  have hlen := rord_len (r.kp.length + 1) (r.kp ++ [(m, x)]) s.came
  have h8 := ordF_len (upd s.ea m (some x)) 8 s.came
  rw [hm] at o1 o2
  rw [e1] at o1 o2 o3 e2
  generalize ordF (upd s.ea m (some x)) 8 s.came = O at *
  generalize rord (r.kp.length + 1) (r.kp ++ [(m, x)]) s.came = R at *
  obtain ⟨P, Q, c⟩ := R
  simp only at o1 o2 o3 e2 hlen
  refine ⟨o1.symm, h.last, h.self, h.peer, h.life, h.theirs, h.seq, o2, h.op, rfl, ?_, ?_, ?_, ?_, ?_, ?_, ?_⟩
  · intro j hj
    exact o3 j (by rw [o2]; exact hj)
  · show upd s.ea m (some x) (s.came + O.length + 1) = none
    rw [← o2, o3 (c + 1) (by omega)]
    exact spotK_none e2
  · intro j hj
    exact hfar j (by have : s.came + O.length + 8 < j := hj; omega)
  · have := h.b1; show s.acked + s.op.length ≤ n + 1; omega
  · have := h.b2; show s.came + O.length ≤ 8 * (n + 1); omega
  · have := h.b3
    rw [hl] at hlen
    show Q.length ≤ n + 1; omega
  · intro p hp
    exact ⟨by have := (h.b4 p hp).1; omega, (h.b4 p hp).2⟩
/-- In. -/
theorem LR.inn {s : Lk} {k : Kc} {r : Rl} {n : Nat} (h : LR s k r n) (f : Fr) : rinF k r f = inF s f ∧ LR (inL s f) k (rinL k r f) (n + 1) := by
  have hf := h.forr f
  unfold rinF rinL inF inL
  rw [hf]
  cases hb : forB s f with
  | false => exact ⟨rfl, h.more (Nat.le_succ n)⟩
  | true =>
    have hb' := hb
    unfold forB Lk.used at hb'
    simp only [decide_eq_true_eq] at hb'
    have hc := h.close f hb'.2.2.2.1
    have hsq := hb'.2.2.2.2.1
    by_cases h0 : f.sq = 0
    · simp only [h0, if_true, or_true, true_or]
      exact ⟨trivial, hc.more (Nat.le_succ n)⟩
    · simp only [h0, if_true, if_false, false_or, Bool.true_eq_false]
      have hcm : (closeL s f.ak).came = s.came := rfl
      have hce : (closeL s f.ak).ea = s.ea := rfl
      have hck : (rcloseL r f).kp = r.kp := rfl
      unfold accF accL
      rw [hcm, hce]
      by_cases hw : f.sq ≤ (s.came : Int) ∨ (s.came : Int) + 8 < f.sq
      · have hn : rnilB r f = true := by
          unfold rnilB
          rw [h.all]
          simp only [Bool.or_eq_true, decide_eq_true_eq]
          left
          omega
        simp only [hw, hn, if_true]
        exact ⟨trivial, hc.owe.more (Nat.le_succ n)⟩
      · simp only [hw, if_false]
        have h1 : s.came < f.sq.toNat := by omega
        have h2 : f.sq.toNat ≤ s.came + 8 := by omega
        have hd : decide (f.sq ≤ (r.all : Int) ∨ 8 < f.sq - (r.all : Int)) = false := by
          rw [h.all]; simp only [decide_eq_false_iff_not]; omega
        cases hk : look f.sq.toNat r.kp with
        | some y =>
          have hn : rnilB r f = true := by unfold rnilB; rw [hd, hk]; rfl
          have hK : keepE s.ea f.sq.toNat f.x = s.ea := by unfold keepE; rw [h.ea _ h1, hk]; rfl
          have hO : ordF s.ea 8 s.came = [] := by unfold ordF; rw [h.nx]
          rw [hK, hO]
          simp only [hn, if_true]
          refine ⟨trivial, ?_⟩
          exact hc.owe.more (Nat.le_succ n)
        | none =>
          have hn : rnilB r f = false := by unfold rnilB; rw [hd, hk]; rfl
          simp only [hn, Bool.false_eq_true, if_false]
          exact hc.keep f.sq.toNat f.x h1 h2 hk
end linkPlays
end Go.Proofs.Ytofigofaiadffaa
