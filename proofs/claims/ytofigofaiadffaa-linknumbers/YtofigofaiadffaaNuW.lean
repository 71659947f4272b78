/- LinkNumbers answers true. -/
import Derived.Test.YtofigofaiadffaaNuP
namespace Go.Proofs.Ytofigofaiadffaa
namespace linkNumbers
open Go.RowKit Go.ChangeShapes Go.WideShapes Go.ChangeAt Go.Deep

/-- The state in the loop. -/
def NS (w wr : World) (ga gb : Nat) (last : Int) (sent q : Nat) : Prop := ∃ A ops sb, sent = A + ops.length ∧ ops.length = q ∧ (∀ o ∈ ops, o.wt = 0 ∧ o.x.length = 1) ∧ BI A false sb ∧ SN w wr ga gb (AI last A ops) sb
theorem NS.below {w wr w1 : World} {ga gb : Nat} {last : Int} {sent q : Nat} (h : NS w wr ga gb last sent q) (hb : Below wr.heap.size wr w1) : NS w w1 ga gb last sent q := by
  obtain ⟨A, ops, sb, h1, h2, h3, h4, h5⟩ := h
  exact ⟨A, ops, sb, h1, h2, h3, h4, h5.below hb⟩
theorem NS.open {w wr : World} {ga gb : Nat} {last : Int} {sent q : Nat} (h : NS w wr ga gb last sent q) (hs : sent ≤ 1000) : Calls Try.prog 21 #[.pointer (some ⟨ga, 0, none⟩)] wr fun e w' => e = .returned (.int .i64 (q : Int)) ∧ Below wr.heap.size wr w' := by
  obtain ⟨A, ops, sb, h1, h2, h3, h4, h5⟩ := h
  have := openN w wr ga gb _ _ h5 (show A + ops.length ≤ 1000000 by omega)
  rw [show (AI last A ops).op.length = q from h2] at this
  exact this
theorem NS.seq {w wr : World} {ga gb : Nat} {last : Int} {sent q : Nat} (h : NS w wr ga gb last sent q) : Calls Try.prog 23 #[.pointer (some ⟨ga, 0, none⟩)] wr fun e w' => e = .returned (.int .i64 (sent : Int)) ∧ w' = wr := by
  obtain ⟨A, ops, sb, h1, h2, h3, h4, h5⟩ := h
  have := seqN w wr ga gb _ _ h5
  rw [show (AI last A ops).used = sent from h1.symm] at this
  exact this
theorem NS.send {w wr : World} {ga gb i : Nat} {last : Int} {sent q : Nat} (h : NS w wr ga gb last sent q) (hs : sent ≤ 1000) (hq : q < 8) (hi : i < 256) :
    Calls Try.prog 12 #[.pointer (some ⟨ga, 0, none⟩), .slice (some ⟨wr.heap.size, 0, none⟩) 1 1] (wr.alloc (.cells #[.int .u8 (i : Int)] 5)) fun e w' => e = .returned (.int .i64 (if last ≤ (sent : Int) then 32 else 0)) ∧ NS w w' ga gb last (if last ≤ (sent : Int) then sent else sent + 1) (if last ≤ (sent : Int) then q else q + 1) := by
  obtain ⟨A, ops, sb, h1, h2, h3, h4, h5⟩ := h
  have hs5 := h5.lt
  have hA := AI_send last A ops [i] (by simp) (by omega)
  refine (sendN w _ ga gb (AI last A ops) sb (some ⟨wr.heap.size, 0, none⟩) 1 1 [i] (h5.below (below_new _ _)) (show A + ops.length ≤ 1000000 by omega) rfl (by intro x hx; simp at hx; omega) (reads_new wr (bV [i]) 5) (fun e => by cases e) (fun ad e _ => by cases e; show wr.heap.size ≠ ga; omega)).mono ?_
  rintro e w' ⟨rfl, hS, -⟩
  rw [hA.1]
  rw [hA.2] at hS
  subst h1
  refine ⟨rfl, ?_⟩
  by_cases hl : last ≤ ((A + ops.length : Nat) : Int)
  · rw [if_pos hl] at hS
    simp only [if_pos hl]
    exact ⟨A, ops, sb, rfl, h2, h3, h4, hS⟩
  · rw [if_neg hl] at hS
    simp only [if_neg hl]
    refine ⟨A, ops ++ [⟨[i], 0, 0⟩], sb, by simp; omega, by simp; omega, fun o ho => ?_, h4, hS⟩
    rw [List.mem_append, List.mem_singleton] at ho
    rcases ho with ho | rfl
    · exact h3 o ho
    · exact ⟨rfl, rfl⟩
/-- While b takes in what a sent: k of the eight frames are in. -/
def NB (w wr : World) (ga gb : Nat) (last : Int) (sent : Nat) (B : Nat) (a : Option Addr) (c k : Nat) : Prop := ∃ A ops sb l, sent = A + ops.length ∧ ops.length = 8 ∧ BI (A + k) (decide (0 < k)) sb ∧ SN w wr ga gb (AI last A ops) sb ∧ RowF B wr a 8 c l ∧ (∀ j, j < 8 → (l.map Fm.p)[j]? = some ⟨0, 1, 1, ((A + 1 + j : Nat) : Int), 0, (l.map (fun x => x.t.bs)).getD j []⟩) ∧ gb < B
theorem NS.out {w wr : World} {ga gb : Nat} {last now : Int} {sent : Nat} (h : NS w wr ga gb last sent 8) (hs : sent ≤ 1000) (hn : I64 now) :
    Calls Try.prog 15 #[.pointer (some ⟨ga, 0, none⟩), .int .i64 now] wr fun e w' => ∃ a c, e = .returned (.slice a 8 c) ∧ NB w w' ga gb last sent wr.heap.size a c 0 := by
  obtain ⟨A, ops, sb, h1, h2, h3, h4, h5⟩ := h
  have hs5 := h5.lt
  have hO := AI_out last A ops now (fun o ho => (h3 o ho).1)
  refine (outN w wr ga gb (AI last A ops) sb now h5 (show A + ops.length ≤ 1000000 by omega) hn).mono ?_
  rintro e w' ⟨a, c, rfl, ⟨l, hR, hl⟩, hS, -⟩
  have e8 : (outF (AI last A ops) now).length = 8 := by rw [hO.1, h2]
  rw [e8] at hR ⊢
  rw [hO.2.2] at hS
  refine ⟨a, c, rfl, A, _, sb, l, by rw [List.length_map]; exact h1, by rw [List.length_map]; exact h2, h4, hS, hR, fun j hj => ?_, hs5.2.1.2⟩
  have h6 := hO.2.1 j (by omega)
  rw [← hl] at h6
  rw [h6]
  have hjl : j < l.length := by rw [hR.1]; exact hj
  congr 2
  have h7 : (l.map Fm.p)[j]? = some l[j].p := by simp [hjl]
  rw [h7] at h6
  simp only [Option.some.injEq] at h6
  have h8 : l[j].t.bs = ops[j].x := congrArg Fr.x h6
  simp [List.getD, hjl, h8]
theorem NB.next {w wr : World} {ga gb : Nat} {last : Int} {sent B b c k : Nat} (h : NB w wr ga gb last sent B (some ⟨b, 0, none⟩) c k) (hs : sent ≤ 1000) (hk : k < 8) :
    ∃ x0 x1 x2 x3 x4 x5, wr.cell? ⟨b, k * 6, none⟩ = some x0 ∧ wr.cell? ⟨b, k * 6 + 1, none⟩ = some x1 ∧ wr.cell? ⟨b, k * 6 + 2, none⟩ = some x2 ∧ wr.cell? ⟨b, k * 6 + 3, none⟩ = some x3 ∧ wr.cell? ⟨b, k * 6 + 4, none⟩ = some x4 ∧ wr.cell? ⟨b, k * 6 + 5, none⟩ = some x5 ∧
      Calls Try.prog 18 #[.pointer (some ⟨gb, 0, none⟩), .agg #[x0, x1, x2, x3, x4, x5]] wr fun e w' => ∃ b' m d r, e = .returned (.tuple #[.slice b' m d, .bool r]) ∧ NB w w' ga gb last sent B (some ⟨b, 0, none⟩) c (k + 1) := by
  obtain ⟨A, ops, sb, l, h1, h2, h3, h4, h5, h6, h7⟩ := h
  have hkl : k < l.length := by rw [h5.1]; exact hk
  have h8 := h6 k hk
  have h9 : (l.map Fm.p)[k]? = some l[k].p := by simp [hkl]
  rw [h9] at h8
  simp only [Option.some.injEq] at h8
  obtain ⟨a, m, d, y0, y1, y2, y3, y4, y5, q1, q2, q3, q4, q5⟩ := h5.frame hkl h8
  have hx : l[k].t.bs.length ≤ 4096 := by have := (h5.2.2 l[k] (List.getElem_mem _)).1; omega
  have hgd : (l.map (fun x => x.t.bs)).getD k [] = l[k].t.bs := by simp [List.getD, hkl]
  simp only [hgd] at y0 y1 y2 y3 y4 y5 q1 q2 q3
  have hu := BI_used h3
  refine ⟨_, _, _, _, _, _, y0, y1, y2, y3, y4, y5, ?_⟩
  refine (inN w wr gb ga sb (AI last A ops) ⟨0, 1, 1, ((A + 1 + k : Nat) : Int), 0, l[k].t.bs⟩ a m d h4.swap (by rw [hu.1]; omega) (by rw [hu.2]; omega) q1 q2 q3 q4 (fun ad e _ => by have := q5 ad e; omega)).mono ?_
  rintro e w' ⟨b', m', d', rfl, hS, hK⟩
  refine ⟨b', m', d', _, rfl, A, ops, _, l, h1, h2, ?_, hS.swap, h5.kp hK h7, h6, h7⟩
  have := BI_in h3 l[k].t.bs hx
  rw [show A + k + 1 = A + 1 + k by omega] at this
  rw [show A + (k + 1) = A + 1 + k by omega]
  simpa using this
/-- While a takes in what b answered: one frame. -/
def NA (w wr : World) (ga gb : Nat) (last : Int) (sent : Nat) (B : Nat) (a : Option Addr) (c k : Nat) : Prop := ∃ sb l, BI sent false sb ∧ (if k = 0 then ∃ A ops, sent = A + ops.length ∧ SN w wr ga gb (AI last A ops) sb else SN w wr ga gb (AI last sent []) sb) ∧ RowF B wr a 1 c l ∧ l.map Fm.p = [⟨1, 0, 1, 0, (sent : Int), []⟩] ∧ ga < B
theorem NB.out {w wr : World} {ga gb : Nat} {last now : Int} {sent B c : Nat} {a : Option Addr} (h : NB w wr ga gb last sent B a c 8) (_hs : sent ≤ 1000) (hn : I64 now) :
    Calls Try.prog 15 #[.pointer (some ⟨gb, 0, none⟩), .int .i64 now] wr fun e w' => ∃ a c, e = .returned (.slice a 1 c) ∧ NA w w' ga gb last sent wr.heap.size a c 0 := by
  obtain ⟨A, ops, sb, l, h1, h2, h3, h4, h5, h6, h7⟩ := h
  have hu := BI_used h3
  have hs4 := h4.lt
  have e8 : A + 8 = sent := by omega
  rw [e8] at h3
  have hO := BI_out h3 now
  refine (outN w wr gb ga sb (AI last A ops) now h4.swap (by rw [hu.1]; omega) hn).mono ?_
  rintro e w' ⟨a', c', rfl, ⟨l', hR, hl⟩, hS, -⟩
  have e1 : (outF sb now).length = 1 := by rw [hO.1]; rfl
  rw [hO.1] at hl
  rw [e1] at hR ⊢
  exact ⟨a', c', rfl, _, l', hO.2, by rw [if_pos rfl]; exact ⟨A, ops, h1, hS.swap⟩, hR, hl, hs4.1.2⟩
theorem NA.next {w wr : World} {ga gb : Nat} {last : Int} {sent B b c : Nat} (h : NA w wr ga gb last sent B (some ⟨b, 0, none⟩) c 0) (hs : sent ≤ 1000) :
    ∃ x0 x1 x2 x3 x4 x5, wr.cell? ⟨b, 0, none⟩ = some x0 ∧ wr.cell? ⟨b, 1, none⟩ = some x1 ∧ wr.cell? ⟨b, 2, none⟩ = some x2 ∧ wr.cell? ⟨b, 3, none⟩ = some x3 ∧ wr.cell? ⟨b, 4, none⟩ = some x4 ∧ wr.cell? ⟨b, 5, none⟩ = some x5 ∧
      Calls Try.prog 18 #[.pointer (some ⟨ga, 0, none⟩), .agg #[x0, x1, x2, x3, x4, x5]] wr fun e w' => ∃ b' m d r, e = .returned (.tuple #[.slice b' m d, .bool r]) ∧ NA w w' ga gb last sent B (some ⟨b, 0, none⟩) c 1 := by
  obtain ⟨sb, l, h1, h2, h3, h4, h5⟩ := h
  rw [if_pos rfl] at h2
  obtain ⟨A, ops, e, h2⟩ := h2
  obtain ⟨y, rfl⟩ : ∃ y, l = [y] := List.length_eq_one_iff.1 h3.1
  have hy : y.p = ⟨1, 0, 1, 0, (sent : Int), []⟩ := by simpa using h4
  obtain ⟨a, m, d, y0, y1, y2, y3, y4, y5, q1, q2, q3, q4, q5⟩ := h3.frame (k := 0) (by simp) hy
  simp only [Nat.zero_mul, Nat.zero_add] at y0 y1 y2 y3 y4 y5
  refine ⟨_, _, _, _, _, _, y0, y1, y2, y3, y4, y5, ?_⟩
  have hA := AI_in last A ops
  rw [← e] at hA
  refine (inN w wr ga gb (AI last A ops) sb ⟨1, 0, 1, 0, (sent : Int), []⟩ a m d h2 (show A + ops.length ≤ 1000000 by omega) (Nat.zero_le _) q1 q2 q3 q4 (fun ad e _ => by have := q5 ad e; omega)).mono ?_
  rintro e w' ⟨b', m', d', rfl, hS, hK⟩
  rw [hA] at hS
  exact ⟨b', m', d', _, rfl, sb, _, h1, by rw [if_neg (by omega)]; exact hS, h3.kp hK h5, h4, h5⟩
theorem NA.end {w wr : World} {ga gb : Nat} {last : Int} {sent B c : Nat} {a : Option Addr} (h : NA w wr ga gb last sent B a c 1) : NS w wr ga gb last sent 0 := by
  obtain ⟨sb, l, h1, h2, _⟩ := h
  rw [if_neg (by omega)] at h2
  exact ⟨sent, [], sb, rfl, rfl, fun o ho => (by cases ho), h1, h2⟩
end linkNumbers
end Go.Proofs.Ytofigofaiadffaa
