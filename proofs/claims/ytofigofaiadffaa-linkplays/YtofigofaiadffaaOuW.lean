/- Out: its walk. -/
import Derived.Test.YtofigofaiadffaaOut
namespace Go.Proofs.Ytofigofaiadffaa
open Go.RowKit Go.ChangeShapes Go.WideShapes Go.ChangeAt Go.Deep

/-- What Out leaves. -/
def OutQ (D : Nat → Prop) (w : World) (g : Nat) (s : Lk) (now : Int) (e : Ending) (w' : World) : Prop :=
  ∃ a n c l, e = .returned (.slice a n c) ∧ RowF w.heap.size w' a n c l ∧ l.map Fm.p = outF s now ∧ LinkP D w' g (outL s now) ∧ Kp (fun k => k = g) w w'
/-- The state of Out when k frames have their addresses. -/
def OutS (D : Nat → Prop) (w wr : World) (g : Nat) (s : Lk) (now : Int) (k : Nat) (a : Option Addr) (n c : Nat) : Prop :=
  ∃ l, RowF w.heap.size wr a n c l ∧ l.map Fm.p = ((outP s now).take k).map s.frame ++ ((outP s now).drop k).map zf ∧ LinkP D wr g { s with op := s.op.map (dueO now) } ∧ Kp (fun k => k = g) w wr
theorem outP_len (s : Lk) (now : Int) : (outP s now).length ≤ s.op.length + 1 := by
  have := dueF_len now s.op (s.acked + 1)
  unfold outP
  simp only
  split
  · simp
  · omega
theorem OutS.len {D : Nat → Prop} {w wr : World} {g : Nat} {s : Lk} {now : Int} {k : Nat} {a : Option Addr} {n c : Nat} (h : OutS D w wr g s now k a n c) : n = (outP s now).length := by
  obtain ⟨l, h1, h2, _⟩ := h
  have := congrArg List.length h2
  simp at this
  have := h1.1
  omega
theorem OutS.next {D : Nat → Prop} {w wr : World} {g b : Nat} {s : Lk} {now : Int} {k n c : Nat} (h : OutS D w wr g s now k (some ⟨b, 0, none⟩) n c) (hk : k < n) (hD : ∀ k, D k → k < w.heap.size) :
    ∃ v0 v1 v2 v4, wr.cell? ⟨g, 45, none⟩ = some (.int .i64 s.self) ∧ wr.cell? ⟨g, 46, none⟩ = some (.int .i64 s.peer) ∧ wr.cell? ⟨g, 47, none⟩ = some (.int .i64 s.life) ∧ wr.cell? ⟨g, 27, none⟩ = some (.int .i64 (s.came : Int)) ∧ wr.cell? ⟨b, k * 6, none⟩ = some v0 ∧ wr.cell? ⟨b, k * 6 + 1, none⟩ = some v1 ∧ wr.cell? ⟨b, k * 6 + 2, none⟩ = some v2 ∧ wr.cell? ⟨b, k * 6 + 4, none⟩ = some v4 ∧ (∀ j, wr.frozen? ⟨b, j, none⟩ = false) ∧ OutS D w (putA wr b (k * 6) s.self s.peer s.life (s.came : Int)).drew g s now (k + 1) (some ⟨b, 0, none⟩) n c := by
  have hlen := h.len
  obtain ⟨l, h1, h2, h3, h4⟩ := h
  have hkl : k < l.length := by rw [h1.1]; exact hk
  have hkp : k < (outP s now).length := by omega
  obtain ⟨b', e, hb1, hb2⟩ := h1.isAt (by omega)
  simp only [Option.some.injEq, Addr.mk.injEq] at e
  obtain ⟨rfl, _⟩ := e
  obtain ⟨y0, y1, y2, _, y4, _⟩ := h1.at hkl
  have h3' := h3
  obtain ⟨m, hc, ho, hr⟩ := h3
  have c1 := hc.self
  have c2 := hc.peer
  have c3 := hc.life
  have c4 := hc.came
  rw [hr.self] at c1
  rw [hr.peer] at c2
  rw [hr.life] at c3
  rw [hr.came] at c4
  refine ⟨_, _, _, _, c1, c2, c3, c4, y0, y1, y2, y4, fun j => h1.2.1.frozenAt j, _, (h1.addr hkl s.self s.peer s.life (s.came : Int)).keep (Nat.le_refl _) (fun _ _ _ => rfl), ?_, h3'.keep (by show wr.heap.size ≤ (putA _ _ _ _ _ _ _).heap.size; rw [putA_size]; exact Nat.le_refl _) (fun j hj => putA_keep (w := wr) (by have := hD j hj; omega)), ?_⟩
  · have e2 : (l.map Fm.p)[k]'(by simpa using hkl) = zf (outP s now)[k] := by
      have h5 : (l.map Fm.p)[k]? = (((outP s now).take k).map s.frame ++ ((outP s now).drop k).map zf)[k]? := by rw [h2]
      rw [List.getElem?_append_right (by simp; omega)] at h5
      simp [hkl, hkp, show k - min k (outP s now).length = 0 by omega] at h5
      simpa using h5
    rw [List.map_set, h2, List.take_succ_eq_append_getElem hkp, List.map_append, List.set_append_right _ _ (by simp; omega), List.drop_eq_getElem_cons (i := k) hkp]
    simp only [List.length_map, List.length_take, show min k (outP s now).length = k by omega, Nat.sub_self, List.map_cons, List.set_cons_zero, List.map_nil, List.append_assoc, List.singleton_append]
    congr 2
    rw [List.getElem_map] at e2
    unfold Fm.p zf at e2
    simp only [Fr.mk.injEq] at e2
    unfold Fm.p Lk.frame
    simp only [Fr.mk.injEq, true_and]
    exact ⟨e2.2.2.2.1, e2.2.2.2.2.2⟩
  · refine Kp.drew ?_
    unfold putA
    exact (((h4.put (.inr hb1) _).put (.inr hb1) _).put (.inr hb1) _).put (.inr hb1) _
theorem OutS.begin {D : Nat → Prop} {w wr : World} {g : Nat} {s : Lk} {now : Int} {a : Option Addr} {n c : Nat} {l : List Fm} (h1 : RowF w.heap.size wr a n c l) (h2 : l.map Fm.p = (outP s now).map zf) (h3 : LinkP D wr g { s with op := s.op.map (dueO now) }) (h4 : Kp (fun k => k = g) w wr) : OutS D w wr g s now 0 a n c := ⟨l, h1, by simpa using h2, h3, h4⟩
theorem OutS.end {D : Nat → Prop} {w wr : World} {g : Nat} {s : Lk} {now : Int} {a : Option Addr} {n c : Nat} (h : OutS D w wr g s now n a n c) : ∃ l, RowF w.heap.size wr a n c l ∧ l.map Fm.p = outF s now ∧ LinkP D wr g { s with op := s.op.map (dueO now) } ∧ Kp (fun k => k = g) w wr := by
  have hl := h.len
  obtain ⟨l, h1, h2, h3, h4⟩ := h
  refine ⟨l, h1, ?_, h3, h4⟩
  rw [h2, hl, List.take_length, List.drop_length]
  simp [outF]

set_option linter.unusedSimpArgs false in
set_option maxRecDepth 100000 in
set_option maxHeartbeats 4000000 in
theorem out_any (D : Nat → Prop) (g : Nat) (s : Lk) (now : Int) (w : World) (h : LinkP D w g s) (hu : s.used ≤ 1000000) (hn : I64 now) :
    Calls Try.prog 15 #[.pointer (some ⟨g, 0, none⟩), .int .i64 now] w (OutQ D w g s now) := by
  have C28 := hide (due_any D g s now w h hu hn)
  have HD := hide h.lt
  have H8 := hide (show s.op.length ≤ 8 from by obtain ⟨m, _, _, hr⟩ := h; exact hr.len)
  clear h hu hn
  unfold OutQ
  unfold DueQ at C28
  go_enter Try.func15, Try.ntmps15
  go_upto_region 2 with (go_at_call 28; go_must ((with_reducible refine C28.out.mono ?_); rintro e w1 ⟨a1, n1, c1, l1, rfl, hR1, hl1, hP1, hK1⟩; have HR1 := hide hR1; have HL1 := hide hl1; have HP1 := hide hP1; have HK1 := hide hK1; clear hR1 hl1 hP1 hK1))
  have HO := hide (show w1.cell? ⟨g, 44, none⟩ = some (.bool s.owed) from by
    obtain ⟨m, hc, _, hr⟩ := HP1.out
    rw [hc.owed, hr.owed])
  have HN1 := hide (show n1 = (dueF now (s.acked + 1) s.op).length from by
    have := congrArg List.length HL1.out
    simp at this
    rw [← this, HR1.out.1])
  by_cases h0 : n1 = 0
  · have HD0 := hide (show (dueF now (s.acked + 1) s.op) = [] from List.eq_nil_of_length_eq_zero (by rw [← HN1.out]; exact h0))
    subst h0
    have hl0 : l1 = [] := List.eq_nil_of_length_eq_zero HR1.out.1
    by_cases hw : s.owed = true
    · have z44 := HO.out
      rw [hw] at z44
      have HOP := hide (show outP s now = [(0, [])] from by unfold outP; rw [HD0.out, hw]; rfl)
      subst hl0
      have HX := hide (below_new w1 (.cells #[.int .i64 0, .int .i64 0, .int .i64 0, .int .i64 0, .int .i64 0, .slice none 0 0] 34))
      have HRX := hide (HR1.out.below HX.out)
      have HRD := hide (reads_new w1 (Fm.cs ⟨0, 0, 0, 0, 0, ⟨none, 0, 0, []⟩⟩) 34)
      clear hw
      go_upto_region 4 with (at_builtin; go_must (refine append_f rfl (.tmp 22) (.tmp 24) rfl w.heap.size a1 0 c1 [] rfl HRX.out (by omega) (Nat.le_trans HK1.out.size HX.out.size) w1.heap.size ⟨0, 0, 0, 0, 0, ⟨none, 0, 0, []⟩⟩ rfl HRD.out (TxO.nil _ _) ?_; intro a5 c5 w5 hR5 hg5 hrow))
      have hg6 := below_grown HX.out hg5
      have hrw : ∀ k, (Value.slice a1 0 c1).ownBlock = some k → w.heap.size ≤ k := fun k hk => by
        cases a1 with
        | none => cases hk
        | some ad => simp only [Value.ownBlock, Option.some.injEq] at hk; rw [← hk]; exact hrow ad rfl
      have HOS := hide (show OutS D w w5 g s now 0 a5 1 c5 from OutS.begin hR5 (by rw [HOP.out]; rfl) (HP1.out.keep hg6.size fun j hj => hg6.block j (HP1.out.lt j hj) (fun e => by have := hrw j e.symm; have := HD.out j hj; omega)) (HK1.out.grown hg6 hrw))
      clear hR5 hg5 hrow hg6 hrw z44
      go_wp2_with fail
      go_loopw [28] (fun i wr => ∃ k : Nat, k ≤ 1 ∧ i = .int .i64 (k : Nat) ∧ Hid (OutS D w wr g s now k a5 1 c5)) (fun i _ => 1 - (intOf i).toNat)
      case atStart => exact ⟨0, Nat.zero_le _, by go_num, HOS⟩
      case round =>
        obtain ⟨k, hk, rfl, HS⟩ := hrel
        by_cases hlt : k < 1
        · obtain ⟨b, hab, -, -⟩ := (HS.out.choose_spec.1).isAt (by omega)
          subst hab
          obtain ⟨v0, v1, v2, v4, q1, q2, q3, q4, y0, y1, y2, y4, hf, hS⟩ := HS.out.next hlt HD.out
          have C29 := hide (address_any g b (k * 6) s.self s.peer s.life (s.came : Int) v0 v1 v2 v4 wr q1 q2 q3 q4 y0 y1 y2 y4 (hf _) (hf _) (hf _) (hf _))
          have HSN := hide hS
          generalize (putA wr b (k * 6) s.self s.peer s.life (s.came : Int)).drew = W2 at C29 HSN
          clear q1 q2 q3 q4 y0 y1 y2 y4 hf hS
          have hki : (k : Int) < (1 : Int) := by omega
          go_wp2_with (go_at_call 29; go_must ((with_reducible refine C29.out.mono ?_); rintro e w9 ⟨rfl, hw⟩; have hw' : W2 = w9 := hw.symm; subst hw'))
          go_roundw
          case rel => exact ⟨k + 1, by omega, by go_num, HSN⟩
          case measure => simp [intOf]; omega
        · obtain rfl : k = 1 := by omega
          have HE := hide HS.out.end
          have HLE := hide HS.out.len
          have HOL := hide (show outL s now = { s with op := s.op.map (dueO now), owed := false } from by
            unfold outL
            rw [if_neg (by rw [List.isEmpty_iff]; intro e; rw [e] at HLE; have := HLE.out; (simp at this <;> omega))])
          obtain ⟨zz, z44⟩ : ∃ zz, wr.cell? ⟨g, 44, none⟩ = some zz := by
            obtain ⟨l, h1, h2, ⟨m, hc, _, hr⟩, h4⟩ := HE.out
            exact ⟨_, hc.owed⟩
          have f44 : wr.frozen? ⟨g, 44, none⟩ = false := by
            obtain ⟨l, h1, h2, ⟨m, hc, _, hr⟩, h4⟩ := HE.out
            exact hc.fz 44 (by omega)
          go_wp2
          go_ret
          obtain ⟨l, h1, h2, h3, h4⟩ := HE.out
          have h5 := h1.keep (w' := wr.setCell ⟨g, 44, none⟩ (.bool false)) (by rw [size_set]; exact Nat.le_refl _) (fun q hq _ => Below.heap_setCell _ _ _ _ (by show q ≠ g; have := HD.out g h3.dg; omega))
          have h6 := h3.owed false
          rw [HOL.out]
          first | exact ⟨_, _, _, rfl, l, h5, h2, h6, h4.put (.inl rfl) _⟩ | exact ⟨_, _, _, l, rfl, h5, h2, h6, h4.put (.inl rfl) _⟩
    · have hw2 : s.owed = false := by simpa using hw
      have z44 := HO.out
      rw [hw2] at z44
      have HOP := hide (show outP s now = [] from by unfold outP; rw [HD0.out, hw2]; rfl)
      have HOS := hide (show OutS D w w1 g s now 0 a1 0 c1 from OutS.begin HR1.out (by rw [HOP.out, hl0]; rfl) HP1.out HK1.out)
      clear hw hw2 hl0
      go_wp2_with fail
      go_loopw [28] (fun i wr => ∃ k : Nat, k ≤ 0 ∧ i = .int .i64 (k : Nat) ∧ Hid (OutS D w wr g s now k a1 0 c1)) (fun i _ => 0 - (intOf i).toNat)
      case atStart => exact ⟨0, Nat.zero_le _, by go_num, HOS⟩
      case round =>
        obtain ⟨k, hk, rfl, HS⟩ := hrel
        by_cases hlt : k < 0
        · obtain ⟨b, hab, -, -⟩ := (HS.out.choose_spec.1).isAt (by omega)
          subst hab
          obtain ⟨v0, v1, v2, v4, q1, q2, q3, q4, y0, y1, y2, y4, hf, hS⟩ := HS.out.next hlt HD.out
          have C29 := hide (address_any g b (k * 6) s.self s.peer s.life (s.came : Int) v0 v1 v2 v4 wr q1 q2 q3 q4 y0 y1 y2 y4 (hf _) (hf _) (hf _) (hf _))
          have HSN := hide hS
          generalize (putA wr b (k * 6) s.self s.peer s.life (s.came : Int)).drew = W2 at C29 HSN
          clear q1 q2 q3 q4 y0 y1 y2 y4 hf hS
          have hki : (k : Int) < (0 : Int) := by omega
          go_wp2_with (go_at_call 29; go_must ((with_reducible refine C29.out.mono ?_); rintro e w9 ⟨rfl, hw⟩; have hw' : W2 = w9 := hw.symm; subst hw'))
          go_roundw
          case rel => exact ⟨k + 1, by omega, by go_num, HSN⟩
          case measure => simp [intOf]; omega
        · obtain rfl : k = 0 := by omega
          have HE := hide HS.out.end
          have HLE := hide HS.out.len
          have HOL := hide (show outL s now = { s with op := s.op.map (dueO now) } from by
            unfold outL
            rw [if_pos (by rw [List.isEmpty_iff]; exact List.eq_nil_of_length_eq_zero HLE.out.symm)])
          go_wp2
          go_ret
          obtain ⟨l, h1, h2, h3, h4⟩ := HE.out
          rw [HOL.out]
          first | exact ⟨_, _, _, rfl, l, h1, h2, h3, h4⟩ | exact ⟨_, _, _, l, rfl, h1, h2, h3, h4⟩
  · have HOP := hide (show outP s now = dueF now (s.acked + 1) s.op from by
      unfold outP
      have h1 : (dueF now (s.acked + 1) s.op).isEmpty = false := by
        cases hq : dueF now (s.acked + 1) s.op with
        | nil => have := HN1.out; rw [hq] at this; exact absurd this h0
        | cons a r => rfl
      simp only [h1, Bool.false_and]
      rfl)
    have HOS := hide (show OutS D w w1 g s now 0 a1 n1 c1 from OutS.begin HR1.out (by rw [HOP.out]; exact HL1.out) HP1.out HK1.out)
    have q0 : ((n1 : Int) == 0) = false := by simpa using h0
    have hp : 0 < n1 := by omega
    have hpi : (0 : Int) < (n1 : Int) := by omega
    have hn9 : n1 ≤ 9 := by have h1 := HN1.out; have h2 := dueF_len now s.op (s.acked + 1); have h3 := H8.out; omega
    go_wp2_with fail
    go_loopw [28] (fun i wr => ∃ k : Nat, k ≤ n1 ∧ i = .int .i64 (k : Nat) ∧ Hid (OutS D w wr g s now k a1 n1 c1)) (fun i _ => n1 - (intOf i).toNat)
    case atStart => exact ⟨0, Nat.zero_le _, by go_num, HOS⟩
    case round =>
      obtain ⟨k, hk, rfl, HS⟩ := hrel
      by_cases hlt : k < n1
      · obtain ⟨b, hab, -, -⟩ := (HS.out.choose_spec.1).isAt (by omega)
        subst hab
        obtain ⟨v0, v1, v2, v4, q1, q2, q3, q4, y0, y1, y2, y4, hf, hS⟩ := HS.out.next hlt HD.out
        have C29 := hide (address_any g b (k * 6) s.self s.peer s.life (s.came : Int) v0 v1 v2 v4 wr q1 q2 q3 q4 y0 y1 y2 y4 (hf _) (hf _) (hf _) (hf _))
        have HSN := hide hS
        generalize (putA wr b (k * 6) s.self s.peer s.life (s.came : Int)).drew = W2 at C29 HSN
        clear q1 q2 q3 q4 y0 y1 y2 y4 hf hS
        have hki : (k : Int) < (n1 : Int) := by omega
        go_wp2_with (go_at_call 29; go_must ((with_reducible refine C29.out.mono ?_); rintro e w9 ⟨rfl, hw⟩; have hw' : W2 = w9 := hw.symm; subst hw'))
        go_roundw
        case rel => exact ⟨k + 1, by omega, by go_num, HSN⟩
        case measure => simp [intOf]; omega
      · obtain rfl : k = n1 := by omega
        have HE := hide HS.out.end
        have HLE := hide HS.out.len
        have HOL := hide (show outL s now = { s with op := s.op.map (dueO now), owed := false } from by
          unfold outL
          rw [if_neg (by rw [List.isEmpty_iff]; intro e; rw [e] at HLE; have := HLE.out; (simp at this <;> omega))])
        obtain ⟨zz, z44⟩ : ∃ zz, wr.cell? ⟨g, 44, none⟩ = some zz := by
          obtain ⟨l, h1, h2, ⟨m, hc, _, hr⟩, h4⟩ := HE.out
          exact ⟨_, hc.owed⟩
        have f44 : wr.frozen? ⟨g, 44, none⟩ = false := by
          obtain ⟨l, h1, h2, ⟨m, hc, _, hr⟩, h4⟩ := HE.out
          exact hc.fz 44 (by omega)
        go_wp2
        go_ret
        obtain ⟨l, h1, h2, h3, h4⟩ := HE.out
        have h5 := h1.keep (w' := wr.setCell ⟨g, 44, none⟩ (.bool false)) (by rw [size_set]; exact Nat.le_refl _) (fun q hq _ => Below.heap_setCell _ _ _ _ (by show q ≠ g; have := HD.out g h3.dg; omega))
        have h6 := h3.owed false
        rw [HOL.out]
        first | exact ⟨_, _, _, rfl, l, h5, h2, h6, h4.put (.inl rfl) _⟩ | exact ⟨_, _, _, l, rfl, h5, h2, h6, h4.put (.inl rfl) _⟩
end Go.Proofs.Ytofigofaiadffaa
