/- isForUs, closeUpTo. -/
import Derived.Test.YtofigofaiadffaaOuW
namespace Go.Proofs.Ytofigofaiadffaa
open Go.RowKit Go.ChangeShapes Go.WideShapes Go.ChangeAt Go.Deep

theorem BoxL.c6 {w : World} {g : Nat} {x y z u v t : Value} (h : BoxL w g [x, y, z, u, v, t]) : w.cell? ⟨g, 0, none⟩ = some x ∧ w.cell? ⟨g, 1, none⟩ = some y ∧ w.cell? ⟨g, 2, none⟩ = some z ∧ w.cell? ⟨g, 3, none⟩ = some u ∧ w.cell? ⟨g, 4, none⟩ = some v ∧ w.cell? ⟨g, 5, none⟩ = some t := ⟨(h.2 0 (by simp)).1, (h.2 1 (by simp)).1, (h.2 2 (by simp)).1, (h.2 3 (by simp)).1, (h.2 4 (by simp)).1, (h.2 5 (by simp)).1⟩
set_option linter.unusedSimpArgs false in
set_option maxRecDepth 100000 in
set_option maxHeartbeats 4000000 in
theorem isfor_any (D : Nat → Prop) (g : Nat) (s : Lk) (f : Fr) (a : Option Addr) (n c : Nat) (w : World) (h : LinkP D w g s) (hl : f.x.length = n) :
    Calls Try.prog 33 #[.pointer (some ⟨g, 0, none⟩), .agg #[.int .i64 f.fr, .int .i64 f.tt, .int .i64 f.lf, .int .i64 f.sq, .int .i64 f.ak, .slice a n c]] w fun e w' => e = .returned (.bool (forB s f)) ∧ Below w.heap.size w w' := by
  obtain ⟨m, hc, -, hr⟩ := h
  have hbn := below_new w (.cells #[.int .i64 f.fr, .int .i64 f.tt, .int .i64 f.lf, .int .i64 f.sq, .int .i64 f.ak, .slice a n c] 34)
  have c1 := keep_cell hc.self hbn
  have c2 := keep_cell hc.peer hbn
  have c3 := keep_cell hc.theirs hbn
  have c4 := keep_cell hc.used hbn
  rw [hr.self] at c1
  rw [hr.peer] at c2
  rw [hr.theirs] at c3
  rw [hr.used] at c4
  have hbx := BoxL.new w [.int .i64 f.fr, .int .i64 f.tt, .int .i64 f.lf, .int .i64 f.sq, .int .i64 f.ak, .slice a n c] 34
  have HF := hide (show forB s f = decide (f.fr = s.peer ∧ f.tt = s.self ∧ f.lf = s.theirs ∧ f.ak ≤ ((s.acked + s.op.length : Nat) : Int) ∧ 0 ≤ f.sq ∧ (n : Int) ≤ 4096) from by
    unfold forB Lk.used
    simp only [hl]
    congr 1
    simp only [eq_iff_iff]
    constructor
    · rintro ⟨h1, h2, h3, h4, h5, h6⟩; exact ⟨h1, h2, h3, h4, h5, by omega⟩
    · rintro ⟨h1, h2, h3, h4, h5, h6⟩; exact ⟨h1, h2, h3, h4, h5, by omega⟩)
  generalize forB s f = R at HF ⊢
  generalize s.acked + s.op.length = u at c4 HF
  generalize s.self = se at c1 HF
  generalize s.peer = pe at c2 HF
  generalize s.theirs = th at c3 HF
  obtain ⟨fr, tt, lf, sq, ak, x⟩ := f
  simp only at hbn hbx HF c1 c2 c3 c4 ⊢
  clear hc hr hl
  go_enter Try.func33, Try.ntmps33
  go_upto_region 1 with fail
  generalize w.alloc (.cells #[.int .i64 fr, .int .i64 tt, .int .i64 lf, .int .i64 sq, .int .i64 ak, .slice a n c] 34) = V at hbn hbx c1 c2 c3 c4 ⊢
  have HBN := hide hbn
  obtain ⟨y0, y1, y2, y3, y4, y5⟩ := hbx.c6
  clear hbn hbx
  by_cases h1 : fr = pe
  · subst h1
    have q1 : (fr == fr) = true := by simp
    by_cases h2 : tt = se
    · subst h2
      have q2 : (tt == tt) = true := by simp
      by_cases h3 : lf = th
      · subst h3
        have q3 : (lf == lf) = true := by simp
        by_cases h4 : ak ≤ (u : Int)
        · have q4 : decide (ak ≤ (u : Int)) = true := by simpa using h4
          by_cases h5 : 0 ≤ sq
          · have q5 : decide (0 ≤ sq) = true := by simpa using h5
            have HR := hide (show R = decide ((n : Int) ≤ 4096) by rw [HF.out]; simp [h4, h5])
            go_big_quiet (fail)
            go_wp2_with fail
            go_ret
            exact ⟨by rw [HR.out]; rfl, below_drewN HBN.out _⟩
          · have q5 : decide (0 ≤ sq) = false := by simpa using h5
            have HR := hide (show R = false by rw [HF.out]; simp [h5])
            go_big_quiet (fail)
            go_wp2_with fail
            go_ret
            exact ⟨by rw [HR.out]; rfl, below_drewN HBN.out _⟩
        · have q4 : decide (ak ≤ (u : Int)) = false := by simpa using h4
          have HR := hide (show R = false by rw [HF.out]; simp [h4])
          go_big_quiet (fail)
          go_wp2_with fail
          go_ret
          exact ⟨by rw [HR.out]; rfl, below_drewN HBN.out _⟩
      · have q3 : (lf == th) = false := by simpa using h3
        have HR := hide (show R = false by rw [HF.out]; simp [h3])
        go_big_quiet (fail)
        go_wp2_with fail
        go_ret
        exact ⟨by rw [HR.out]; rfl, below_drewN HBN.out _⟩
    · have q2 : (tt == se) = false := by simpa using h2
      have HR := hide (show R = false by rw [HF.out]; simp [h2])
      go_big_quiet (fail)
      go_wp2_with fail
      go_ret
      exact ⟨by rw [HR.out]; rfl, below_drewN HBN.out _⟩
  · have q1 : (fr == pe) = false := by simpa using h1
    have HR := hide (show R = false by rw [HF.out]; simp [h1])
    go_big_quiet (fail)
    go_wp2_with fail
    go_ret
    exact ⟨by rw [HR.out]; rfl, below_drewN HBN.out _⟩

/-- The first open load is open no more. -/
theorem Rel.close {s : Lk} {m : Lm} (h : Rel s m) {o : Op} {r : List Op} (e : s.op = o :: r) (t : Om) : Rel { s with acked := s.acked + 1, op := r } { m with acked := ((s.acked + 1 : Nat) : Int), os := upd m.os ((s.acked + 1) % 8) t } := by
  have hl := h.len
  have hu := h.used
  rw [e] at hl hu
  simp only [List.length_cons] at hl hu
  refine ⟨h.last, by rw [hu]; show _ = ((s.acked + 1 + r.length : Nat) : Int); congr 1; omega, rfl, h.came, h.owed, h.self, h.peer, h.life, h.theirs, by show r.length ≤ 8; omega, fun i hi => ?_, fun i hi => ?_, h.ea, h.far⟩
  · have hi : i < r.length := hi
    have h2 := h.op (i + 1) (by rw [e]; simp; omega)
    simp only [e, List.getElem_cons_succ] at h2
    rw [show s.acked + 1 + (i + 1) = s.acked + 1 + 1 + i by omega] at h2
    show _ = (r[i]).x ∧ _ = r[i].tm ∧ _ = r[i].wt
    simp only
    rw [upd_ne _ _ _ _ (by omega)]
    exact h2
  · have hi : i < r.length := hi
    have h2 := h.opb (i + 1) (by rw [e]; simp; omega)
    simp only [e, List.getElem_cons_succ] at h2
    exact h2
/-- The link when i loads were let go. -/
def clI (s : Lk) (i : Nat) : Lk := { s with acked := s.acked + i, op := s.op.drop i }
theorem close_put {D : Nat → Prop} {w : World} {g i : Nat} {s : Lk} (h : LinkP D w g (clI s i)) (hi : i < s.op.length) :
    ∃ va v0 v1 v2, w.cell? ⟨g, 2, none⟩ = some (.int .i64 ((s.acked + i : Nat) : Int)) ∧ w.frozen? ⟨g, 2, none⟩ = false ∧ ∃ W, W = w.setCell ⟨g, 2, none⟩ (.int .i64 ((s.acked + i + 1 : Nat) : Int)) ∧ W.cell? ⟨g, 2, none⟩ = some va ∧ W.cell? ⟨g, 3 + ((s.acked + i + 1) % 8) * 3, none⟩ = some v0 ∧ W.cell? ⟨g, 3 + ((s.acked + i + 1) % 8) * 3 + 1, none⟩ = some v1 ∧ W.cell? ⟨g, 3 + ((s.acked + i + 1) % 8) * 3 + 2, none⟩ = some v2 ∧ (∀ j, j < 49 → W.frozen? ⟨g, j, none⟩ = false) ∧ va = .int .i64 ((s.acked + i + 1 : Nat) : Int) ∧ LinkP D (put3 W g (3 + ((s.acked + i + 1) % 8) * 3) (.slice none 0 0) (.int .i64 0) (.int .i64 0)) g (clI s (i + 1)) ∧ Kp (fun k => k = g) w (put3 W g (3 + ((s.acked + i + 1) % 8) * 3) (.slice none 0 0) (.int .i64 0) (.int .i64 0)) := by
  obtain ⟨m, hc, ho, hr⟩ := h
  have y := hc.acked
  rw [hr.acked] at y
  have h8 : (s.acked + i + 1) % 8 < 8 := Nat.mod_lt _ (by omega)
  have hc1 := hc.put_acked ((s.acked + i + 1 : Nat) : Int)
  have hc2 := hc1.put_o _ h8 om0
  have hk1 : Kp (fun k => k = g) w (w.setCell ⟨g, 2, none⟩ (.int .i64 ((s.acked + i + 1 : Nat) : Int))) := (Kp.refl (fun k => k = g) w).put (.inl rfl) _
  refine ⟨_, _, _, _, y, hc.fz 2 (by omega), _, rfl, hc1.acked, hc1.o0 _ h8, hc1.o1 _ h8, hc1.o2 _ h8, hc1.fz, rfl, ⟨_, hc2, ?_, ?_⟩, ?_⟩
  · have h1 : OwnL D (put3 (w.setCell ⟨g, 2, none⟩ (.int .i64 ((s.acked + i + 1 : Nat) : Int))) g (3 + ((s.acked + i + 1) % 8) * 3) (.slice none 0 0) (.int .i64 0) (.int .i64 0)) g m := ho.keep (by rw [put3_size, size_set]; exact Nat.le_refl _) (fun k _ hk => by rw [put3_keep hk, Below.heap_setCell _ _ _ _ (by exact hk)])
    have h2 := h1.put_o ((s.acked + i + 1) % 8) om0 (TxO.nil _ _) (fun ad e => by cases e)
    exact ⟨h2.dg, h2.dl, h2.o, h2.e⟩
  · have e : (clI s i).op = s.op[i] :: s.op.drop (i + 1) := List.drop_eq_getElem_cons hi
    have := hr.close e om0
    exact this
  · unfold put3
    exact ((hk1.put (.inl rfl) _).put (.inl rfl) _).put (.inl rfl) _
end Go.Proofs.Ytofigofaiadffaa
