/- through, Items, alive; a deque beside other memory. -/
import Derived.Test.YtaooglcjcnkgnaaItm
namespace Go.Proofs.Ytaooglcjcnkgnaa
open Go.RowKit Go.ChangeShapes Go.WideShapes Go.ChangeAt Go.Deep

/-- The steps of a call, up to k. -/
def stepsD (d : Dq) (who : Int) : Nat → Int × Int × Dq
  | 0 => (-2, 0, d)
  | k + 1 => if (stepD d who).1 = 0 then stepsD (stepD d who).2.2 who k else stepD d who

/-- A call, all its steps one behind the other. -/
def thruD (d : Dq) (who kind item : Int) : Int × Int × Dq := if (beginD d who kind item).1 = 0 then stepsD (beginD d who kind item).2 who 6 else (-1, 0, d)

theorem begin_keep {d : Dq} {who kind item : Int} (h : ¬ (beginD d who kind item).1 = 0) : (beginD d who kind item).2 = d := by
  unfold beginD at *
  split
  · rfl
  · rename_i h1
    rw [if_neg h1] at h
    split
    · rfl
    · rename_i h2
      rw [if_neg h2] at h
      simp at h

/-- The blocks A are not the deque's. -/
def Dn (A : Nat → Prop) (w : World) (cb : Nat) (d : Dq) : Prop := (∀ k, A k → k < w.heap.size) ∧ ∃ g, DqM w cb g d ∧ ¬ A cb ∧ ¬ A g

/-- The blocks A are as they were. -/
structure KA (A : Nat → Prop) (w w' : World) : Prop where
  os : w'.os = w.os
  tape : w'.tape = w.tape
  output : w'.output = w.output
  size : w.heap.size ≤ w'.heap.size
  block : ∀ k, k < w.heap.size → A k → w'.heap[k]? = w.heap[k]?

theorem KA.refl (A : Nat → Prop) (w : World) : KA A w w := ⟨rfl, rfl, rfl, Nat.le_refl _, fun _ _ _ => rfl⟩
theorem KA.trans {A : Nat → Prop} {a b c : World} (h : KA A a b) (k : KA A b c) : KA A a c :=
  ⟨k.os.trans h.os, k.tape.trans h.tape, k.output.trans h.output, Nat.le_trans h.size k.size, fun i hi h1 => (k.block i (Nat.lt_of_lt_of_le hi h.size) h1).trans (h.block i hi h1)⟩
theorem KA.below {A : Nat → Prop} {B : Nat} {w0 w w' : World} (h : KA A w w') (hb : Below B w0 w) (hB : B ≤ w0.heap.size) (hA : ∀ k, k < B → A k) : Below B w0 w' :=
  ⟨h.os.trans hb.os, h.tape.trans hb.tape, h.output.trans hb.output, Nat.le_trans hb.size h.size, fun k hk => (h.block k (Nat.lt_of_lt_of_le (Nat.lt_of_lt_of_le hk hB) hb.size) (hA k hk)).trans (hb.block k hk)⟩
theorem KA.ofB {A : Nat → Prop} {a b : World} (h : Below a.heap.size a b) : KA A a b := ⟨h.os, h.tape, h.output, h.size, fun k hk _ => h.block k hk⟩
theorem KA.own {A : Nat → Prop} {w w' : World} (h : KA A w w') {B n : Nat} {v : Value} {xs : List Value} (ho : w.ownsRow B 3 1 v n xs) (hA : ∀ g, v.ownBlock = some g → A g) : w'.ownsRow B 3 1 v n xs := by
  refine ⟨ho.1, ?_⟩
  rcases ho.2 with h1 | ⟨g, cap, cur, e, h1, h2, h3⟩
  · exact .inl h1
  · refine .inr ⟨g, cap, cur, e, h1, ?_, h3⟩
    rw [h.block g (Array.getElem?_eq_some_iff.1 h2).1 (hA g (by rw [e]; rfl))]
    exact h2

theorem Dn.of {A : Nat → Prop} {w w' : World} {cb g g' : Nat} {d : Dq} (h1 : ∀ k, A k → k < w.heap.size) (h2 : ¬ A cb) (h3 : ¬ A g) (hM : DqM w' cb g' d) (hW : Wr cb g w w') (hg : g' = g ∨ w.heap.size ≤ g') : Dn A w' cb d ∧ KA A w w' := by
  refine ⟨⟨fun k hk => Nat.lt_of_lt_of_le (h1 k hk) hW.size, g', hM, h2, ?_⟩, ⟨hW.os, hW.tape, hW.output, hW.size, fun k hk ha => hW.block k hk (fun e => h2 (e ▸ ha)) (fun e => h3 (e ▸ ha))⟩⟩
  rcases hg with rfl | hg
  · exact h3
  · intro ha
    have := h1 _ ha
    omega

theorem Dn.step {A : Nat → Prop} {w : World} {cb : Nat} {d : Dq} (h : Dn A w cb d) (hs : Sml 999999 d) (who : Int) : Calls Try.prog 14 #[.pointer (some ⟨cb, 0, none⟩), .int .i64 who] w fun e w' => e = .returned (.tuple #[.int .i64 (stepD d who).1, .int .i64 (stepD d who).2.1]) ∧ Dn A w' cb (stepD d who).2.2 ∧ KA A w w' := by
  obtain ⟨h1, g, hM, h2, h3⟩ := h
  refine (step_any w cb g d who hM hs).mono ?_
  rintro e w' ⟨rfl, g', hM', hW, hg⟩
  exact ⟨rfl, Dn.of h1 h2 h3 hM' hW hg⟩

theorem Dn.begin {A : Nat → Prop} {w : World} {cb : Nat} {d : Dq} (h : Dn A w cb d) (who kind item : Int) : Calls Try.prog 13 #[.pointer (some ⟨cb, 0, none⟩), .int .i64 who, .int .i64 kind, .int .i64 item] w fun e w' => e = .returned (.int .i64 (beginD d who kind item).1) ∧ Dn A w' cb (beginD d who kind item).2 ∧ KA A w w' := by
  obtain ⟨h1, g, hM, h2, h3⟩ := h
  refine (begin_any w cb g d who kind item hM).mono ?_
  rintro e w' ⟨rfl, hM', hW⟩
  exact ⟨rfl, Dn.of h1 h2 h3 hM' hW (.inl rfl)⟩

theorem Dn.busy {A : Nat → Prop} {w : World} {cb : Nat} {d : Dq} (h : Dn A w cb d) (who : Int) : Calls Try.prog 18 #[.pointer (some ⟨cb, 0, none⟩), .int .i64 who] w fun e w' => e = .returned (.bool (busyD d who)) ∧ w' = w := by
  obtain ⟨h1, g, hM, h2, h3⟩ := h
  exact busy_any w cb g d who hM

theorem Dn.below {A : Nat → Prop} {w w' : World} {cb : Nat} {d : Dq} (h : Dn A w cb d) (hb : Below w.heap.size w w') : Dn A w' cb d := by
  obtain ⟨h1, g, hM, h2, h3⟩ := h
  exact ⟨fun k hk => Nat.lt_of_lt_of_le (h1 k hk) hb.size, g, hM.below hb, h2, h3⟩

/-- A block of A is written. -/
theorem Dn.grown {A : Nat → Prop} {w w' : World} {cb : Nat} {d : Dq} (h : Dn A w cb d) {k : Nat} (hk : A k) (hg : w.grownBy w' (some k)) : Dn A w' cb d := by
  obtain ⟨h1, g, hM, h2, h3⟩ := h
  have e1 : cb ≠ k := fun e => h2 (e ▸ hk)
  have e2 : g ≠ k := fun e => h3 (e ▸ hk)
  refine ⟨fun k hk => Nat.lt_of_lt_of_le (h1 k hk) hg.size, g, ?_, h2, h3⟩
  exact ⟨hM.bx.keep (hg.block cb hM.bx.lt (by simpa using e1)), hM.pow, hM.len, hM.own.kept hg (.inr (by simpa [Value.ownBlock] using e2)), hM.ne⟩

/-- One block more, that is new. -/
theorem Dn.more {A : Nat → Prop} {w w' : World} {cb : Nat} {d : Dq} (h : Dn A w cb d) (hb : Below w.heap.size w w') {k : Nat} (h1 : w.heap.size ≤ k) (h2 : k < w'.heap.size) : Dn (fun j => A j ∨ j = k) w' cb d := by
  obtain ⟨a1, g, hM, a2, a3⟩ := h
  have hl := hM.lt
  refine ⟨fun j hj => ?_, g, hM.below hb, ?_, ?_⟩
  · rcases hj with hj | rfl
    · exact Nat.lt_of_lt_of_le (a1 j hj) hb.size
    · exact h2
  · rintro (e | e)
    · exact a2 e
    · omega
  · rintro (e | e)
    · exact a3 e
    · omega

theorem Dn.less {A A' : Nat → Prop} {w : World} {cb : Nat} {d : Dq} (h : Dn A w cb d) (hA : ∀ k, A' k → A k) : Dn A' w cb d := by
  obtain ⟨a1, g, hM, a2, a3⟩ := h
  exact ⟨fun k hk => a1 k (hA k hk), g, hM, fun e => a2 (hA _ e), fun e => a3 (hA _ e)⟩

theorem Dn.new {w0 w : World} (hb : Below w0.heap.size w0 w) : Calls Try.prog 11 #[] w fun e w' => ∃ cb, e = .returned (.pointer (some ⟨cb, 0, none⟩)) ∧ Dn (fun k => k < w0.heap.size) w' cb Dq.zero ∧ Below w0.heap.size w0 w' := by
  refine (newD_any w).mono ?_
  rintro e w' ⟨cb, g, rfl, hM, h1, h2, hb'⟩
  refine ⟨cb, rfl, ⟨fun k hk => ?_, g, hM, ?_, ?_⟩, hb.trans (hb'.mono hb.size)⟩
  · have := hb.size; have := hb'.size; omega
  · have := hb.size; omega
  · have := hb.size; omega

theorem Sml.steps {m : Nat} {d : Dq} {who : Int} (k : Nat) (h : Sml m d) : Sml (m + 2 * k) (stepsD d who k).2.2 := by
  induction k generalizing m d with
  | zero => exact h
  | succ k ih =>
    unfold stepsD
    split
    · have := ih (h.step who)
      rw [show m + 2 + 2 * k = m + 2 * (k + 1) by omega] at this
      exact this
    · exact (h.step who).mono (by omega)

theorem Sml.thru {m : Nat} {d : Dq} (h : Sml m d) (who kind item : Int) : Sml (m + 12) (thruD d who kind item).2.2 := by
  unfold thruD
  split
  · exact (h.begin who kind item).steps 6
  · exact h.mono (by omega)

set_option maxRecDepth 100000 in
set_option maxHeartbeats 1000000 in
theorem Dn.thru {A : Nat → Prop} {w : World} {cb : Nat} {d : Dq} (h : Dn A w cb d) (hs : Sml 900000 d) (who kind item : Int) : Calls Try.prog 23 #[.pointer (some ⟨cb, 0, none⟩), .int .i64 who, .int .i64 kind, .int .i64 item] w fun e w' => e = .returned (.tuple #[.int .i64 (thruD d who kind item).1, .int .i64 (thruD d who kind item).2.1]) ∧ Dn A w' cb (thruD d who kind item).2.2 ∧ KA A w w' := by
  have C13 := hide (h.begin who kind item)
  have HS := hide (hs.begin who kind item)
  have HK := hide (@begin_keep d who kind item)
  have HD := hide h
  obtain ⟨R, hR⟩ : ∃ R, R = thruD d who kind item := ⟨_, rfl⟩
  rw [← hR]
  unfold thruD at hR
  generalize beginD d who kind item = b at *
  obtain ⟨b1, b2⟩ := b
  dsimp only at C13 HS hR HK
  clear h hs
  by_cases h0 : b1 = 0
  · rw [if_pos h0] at hR
    subst h0
    have HR := hide hR
    clear hR
    go_enter Try.func23, Try.ntmps23
    go_wp2_with (first
      | (go_at_call 13; go_must ((with_reducible refine C13.out.mono ?_); rintro e w1 ⟨rfl, hM, hK⟩; have HM := hide hM; have HKA := hide hK; clear hM hK))
      | (go_at_call 15; go_must ((with_reducible refine (num_any _ _).mono ?_); rintro e w2 ⟨rfl, rfl⟩)))
    rename_i w1
    go_loopw [11] (fun i wr => ∃ (k : Nat) (d' : Dq), k ≤ 6 ∧ i = .int .i64 (k : Nat) ∧ Hid (Dn A wr cb d' ∧ KA A w wr ∧ Sml (900000 + 2 * k) d' ∧ R = stepsD d' who (6 - k))) (fun i _ => 6 - (intOf i).toNat)
    case atStart => exact ⟨0, b2, by omega, rfl, hide ⟨HM.out, HKA.out, HS.out, HR.out⟩⟩
    case round =>
      obtain ⟨k, d', hk, rfl, HI⟩ := hrel
      by_cases hlt : k < 6
      · have C14 := hide (HI.out.1.step (HI.out.2.2.1.mono (by omega)) who)
        have HS' := hide (HI.out.2.2.1.step who)
        have HE := hide (show R = if (stepD d' who).1 = 0 then stepsD (stepD d' who).2.2 who (6 - (k + 1)) else stepD d' who by
          have := HI.out.2.2.2
          rw [show 6 - k = (6 - (k + 1)) + 1 by omega] at this
          exact this)
        generalize stepD d' who = s at *
        obtain ⟨a, v, d2⟩ := s
        dsimp only at C14 HS' HE
        by_cases ha : a = 0
        · have HE2 := hide (HE.out.trans (if_pos ha))
          subst ha
          go_wp2_with (go_at_call 14; go_must ((with_reducible refine C14.out.mono ?_); rintro e w3 ⟨rfl, hM, hK⟩; have HM := hide hM; have HKB := hide hK; clear hM hK))
          go_roundw
          case rel => exact ⟨k + 1, d2, by omega, by go_num, hide ⟨HM.out, HI.out.2.1.trans HKB.out, HS'.out, HE2.out⟩⟩
          case measure => simp [intOf]; omega
        · have HE2 := hide (HE.out.trans (if_neg ha))
          have ha' : (a != 0) = true := by simpa using ha
          have ha'' : (a == 0) = false := by simpa using ha
          clear ha
          go_wp2_with (go_at_call 14; go_must ((with_reducible refine C14.out.mono ?_); rintro e w3 ⟨rfl, hM, hK⟩; have HM := hide hM; have HKB := hide hK; clear hM hK))
          go_ret2
          rw [HE2.out]
          exact ⟨rfl, HM.out, HI.out.2.1.trans HKB.out⟩
      · obtain rfl : k = 6 := by omega
        go_wp2
        go_ret2
        have := HI.out.2.2.2
        rw [this]
        exact ⟨rfl, HI.out.1, HI.out.2.1⟩
  · rw [if_neg h0] at hR
    have HR := hide hR
    have HK2 := hide (HK.out h0)
    have h0' : (b1 != 0) = true := by simpa using h0
    have h0'' : (b1 == 0) = false := by simpa using h0
    clear h0 hR HK
    go_enter Try.func23, Try.ntmps23
    go_wp2_with (first
      | (go_at_call 13; go_must ((with_reducible refine C13.out.mono ?_); rintro e w1 ⟨rfl, hM, hK⟩; have HM := hide hM; have HKA := hide hK; clear hM hK))
      | (go_at_call 15; go_must ((with_reducible refine (num_any _ _).mono ?_); rintro e w2 ⟨rfl, rfl⟩)))
    go_ret2
    rw [HR.out]
    have := HM.out
    rw [HK2.out] at this
    exact ⟨rfl, this, HKA.out⟩
end Go.Proofs.Ytaooglcjcnkgnaa
