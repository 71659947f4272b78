/- The document's link: In: a frame that is not for us; the loads that are closed. -/
import Derived.Test.YtofigofaiadffaaRia
namespace Go.Proofs.Ytofigofaiadffaa
open Go.RowKit Go.ChangeShapes Go.WideShapes Go.ChangeAt Go.Deep

/-- What In leaves. -/
def RInQ (E : Nat → Prop) (w : World) (g : Nat) (k : Kc) (r : Rl) (f : Fr) (e : Ending) (w' : World) : Prop :=
  ∃ a m c l, e = .returned (.tuple #[.slice a m c, .bool (rforB k r f)]) ∧ RowT (fun j => j ≠ g) w.heap.size w' a m c l ∧ l.map Txt.bs = rinF k r f ∧ RLk (Ex E w w') w' g k (rinL k r f) ∧ Kp E w w'
theorem RLk.c4 {E : Nat → Prop} {w : World} {g : Nat} {k : Kc} {r : Rl} (h : RLk E w g k r) : w.cell? ⟨g, 0, none⟩ = some (.int .i64 k.self) ∧ w.cell? ⟨g, 1, none⟩ = some (.int .i64 k.peer) ∧ w.cell? ⟨g, 3, none⟩ = some (.int .i64 k.theirs) ∧ w.cell? ⟨g, 5, none⟩ = some (.int .i64 (r.seq : Nat)) := by
  obtain ⟨oa, on, oc, ka, kn, kc, lo, lk, hbx, hro, hrk, hlo, hlk, hEg, hlt⟩ := h
  have c := fun j hj => (hbx.2 j hj).1
  exact ⟨c 0 (by simp [lkCs]), c 1 (by simp [lkCs]), c 3 (by simp [lkCs]), c 5 (by simp [lkCs])⟩
theorem rin_stay {E : Nat → Prop} {w w' : World} {g : Nat} {k : Kc} {r : Rl} {f : Fr} (h : RLk E w g k r) (hF : rforB k r f = false) (hb : Below w.heap.size w w') : RInQ E w g k r f (.returned (.tuple #[.slice none 0 0, .bool false])) w' := by
  have h2 := h.stay hb
  refine ⟨none, 0, 0, [], by rw [hF], RowT.nil _ _ _, by unfold rinF; rw [if_pos (.inl hF)]; rfl, ?_, h2.2⟩
  unfold rinL
  rw [if_pos hF]
  exact h2.1

set_option linter.unusedSimpArgs false in
set_option maxRecDepth 100000 in
set_option maxHeartbeats 4000000 in
theorem rin_no (E : Nat → Prop) (g : Nat) (k : Kc) (r : Rl) (f : Fr) (a : Option Addr) (n c : Nat) (w : World) (h : RLk E w g k r) (hl : f.x.length = n) (hF : rforB k r f = false) :
    Calls Try.prog 19 #[.pointer (some ⟨g, 0, none⟩), .agg #[.int .i64 f.fr, .int .i64 f.tt, .int .i64 f.lf, .int .i64 f.sq, .int .i64 f.ak, .slice a n c]] w (RInQ E w g k r f) := by
  have HQ := hide (fun w' (hb : Below w.heap.size w w') => rin_stay h hF hb)
  have hbn := below_new w (.cells #[.int .i64 f.fr, .int .i64 f.tt, .int .i64 f.lf, .int .i64 f.sq, .int .i64 f.ak, .slice a n c] 34)
  obtain ⟨c0, c1, c3, c5⟩ := (h.below hbn).c4
  have hbx := BoxL.new w [.int .i64 f.fr, .int .i64 f.tt, .int .i64 f.lf, .int .i64 f.sq, .int .i64 f.ak, .slice a n c] 34
  have HF := hide (show false = decide (f.fr = k.peer ∧ f.tt = k.self ∧ f.lf = k.theirs ∧ f.ak ≤ (r.seq : Int) ∧ 0 ≤ f.sq ∧ (n : Int) ≤ 4096) from by
    rw [← hF]
    unfold rforB
    simp only [hl]
    congr 1
    simp only [eq_iff_iff]
    constructor
    · rintro ⟨h1, h2, h3, h4, h5, h6⟩; exact ⟨h1, h2, h3, h4, h5, by omega⟩
    · rintro ⟨h1, h2, h3, h4, h5, h6⟩; exact ⟨h1, h2, h3, h4, h5, by omega⟩)
  generalize RInQ E w g k r f = Z at *
  generalize (r.seq : Int) = u at *
  generalize k.self = se at *
  generalize k.peer = pe at *
  generalize k.theirs = th at *
  obtain ⟨fr, tt, lf, sq, ak, x⟩ := f
  simp only at hbn hbx HF c0 c1 c3 c5 ⊢
  clear h hl hF
  go_enter Try.func19, Try.ntmps19
  go_upto_region 1 with fail
  generalize w.alloc (.cells #[.int .i64 fr, .int .i64 tt, .int .i64 lf, .int .i64 sq, .int .i64 ak, .slice a n c] 34) = V at hbn hbx c0 c1 c3 c5 ⊢
  have HBN := hide hbn
  obtain ⟨y0, y1, y2, y3, y4, y5⟩ := hbx.c6
  clear hbn hbx
  by_cases h1 : fr = pe
  · subst h1
    have q1 : (fr == fr) = true := by simp
    by_cases h2 : tt = se
    · subst h2
      have q2 : (tt == tt) = true := by simp
      by_cases h3 : lf = th
      · subst h3
        have q3 : (lf == lf) = true := by simp
        by_cases h4 : ak ≤ u
        · have q4 : decide (u < ak) = false := by simp; omega
          by_cases h5 : 0 ≤ sq
          · have q5 : decide (sq < 0) = false := by simp; omega
            have h6 : ¬ (n : Int) ≤ 4096 := fun e => by have := HF.out; simp [h4, h5, e] at this
            have q6 : decide (4096 < (n : Int)) = true := by simp; omega
            clear HF
            go_big_quiet (fail)
            go_wp2_with fail
            try go_ret2
            exact HQ.out _ (below_drewN HBN.out _)
          · have q5 : decide (sq < 0) = true := by simp; omega
            clear HF
            go_big_quiet (fail)
            go_wp2_with fail
            try go_ret2
            exact HQ.out _ (below_drewN HBN.out _)
        · have q4 : decide (u < ak) = true := by simp; omega
          clear HF
          go_big_quiet (fail)
          go_wp2_with fail
          try go_ret2
          exact HQ.out _ (below_drewN HBN.out _)
      · have q3 : (lf == th) = false := by simpa using h3
        have q3b : (lf != th) = true := by simpa using h3
        clear HF
        go_big_quiet (fail)
        go_wp2_with fail
        try go_ret2
        exact HQ.out _ (below_drewN HBN.out _)
    · have q2 : (tt == se) = false := by simpa using h2
      have q2b : (tt != se) = true := by simpa using h2
      clear HF
      go_big_quiet (fail)
      go_wp2_with fail
      try go_ret2
      exact HQ.out _ (below_drewN HBN.out _)
  · have q1 : (fr == pe) = false := by simpa using h1
    have q1b : (fr != pe) = true := by simpa using h1
    clear HF
    go_big_quiet (fail)
    go_wp2_with fail
    try go_ret2
    exact HQ.out _ (below_drewN HBN.out _)

/-- Where the closing stands: i loads looked at, those that stay in a new row. -/
def RIS (E : Nat → Prop) (w V wr : World) (g : Nat) (k : Kc) (r : Rl) (f : Fr) (i : Nat) (a : Option Addr) (n c : Nat) : Prop :=
  ∃ l, RowO (EE E g V.heap.size) V.heap.size wr a n c l ∧ l.map OpM.q = ((r.op.take i).filter fun p => decide (f.ak < (p.sq : Int))).map Ro.q ∧ RLk E V g k r ∧ Below V.heap.size V wr ∧ Below w.heap.size w V

theorem RIS.begin {E : Nat → Prop} {w V : World} {g : Nat} {k : Kc} {r : Rl} (f : Fr) (h : RLk E w g k r) (hb : Below w.heap.size w V) : RIS E w V V g k r f 0 none 0 0 :=
  ⟨[], RowO.nil _ _ _, rfl, h.below hb, Below.refl _ _, hb⟩
theorem RIS.skip {E : Nat → Prop} {w V wr : World} {g : Nat} {k : Kc} {r : Rl} {f : Fr} {i : Nat} {a : Option Addr} {n c : Nat} (h : RIS E w V wr g k r f i a n c) (hi : i < r.op.length) (hs : ¬ f.ak < (r.op[i].sq : Int)) (q : Nat) : RIS E w V (wr.drewN q) g k r f (i + 1) a n c := by
  obtain ⟨l, h1, h2, h3, h4, h5⟩ := h
  refine ⟨l, h1.keep (fun _ _ _ => rfl), ?_, h3, below_drewN h4 q, h5⟩
  rw [List.take_succ_eq_append_getElem hi, List.filter_append, h2]
  simp [hs]
theorem RIS.more {E : Nat → Prop} {w V wr X w4 : World} {g : Nat} {k : Kc} {r : Rl} {f : Fr} {i : Nat} {a a4 : Option Addr} {n c c4 : Nat} {l : List OpM} {y : OpM} (h : RIS E w V wr g k r f i a n c) (hl2 : l.map OpM.q = ((r.op.take i).filter fun p => decide (f.ak < (p.sq : Int))).map Ro.q) (hi : i < r.op.length) (hs : f.ak < (r.op[i].sq : Int)) (hy : y.q = r.op[i].q)
    (hr : RowO (EE E g V.heap.size) V.heap.size w4 a4 (n + 1) c4 (l ++ [y])) (hX : Below wr.heap.size wr X) (hg : X.grownBy w4 (Value.slice a n c).ownBlock) (hrow : ∀ ad, a = some ad → V.heap.size ≤ ad.block) : RIS E w V w4 g k r f (i + 1) a4 (n + 1) c4 := by
  obtain ⟨-, -, -, h3, h4, h5⟩ := h
  refine ⟨l ++ [y], hr, ?_, h3, (h4.trans (hX.mono h4.size)).grown hg (Nat.le_trans h4.size hX.size) (fun q hq => ?_), h5⟩
  · rw [List.take_succ_eq_append_getElem hi, List.filter_append, List.map_append, List.map_append, hl2]
    simp [hs, hy]
  · cases a with
    | none => cases hq
    | some ad => simp only [Value.ownBlock, Option.some.injEq] at hq; rw [← hq]; exact hrow ad rfl
end Go.Proofs.Ytofigofaiadffaa
