/- A table's row of ready tasks: oldest, Ready. -/
import Derived.Test.YtandbkbodlbjcaaRow
namespace Go.Proofs.Ytandbkbodlbjcaa
open Go.RowKit Go.ChangeShapes Go.WideShapes Go.ChangeAt Go.Deep Go.Maps Go.Sort

theorem RN.first_put {w : World} {b off n c : Nat} {xs : List ByteArray} {x : ByteArray} (h : RN w (some ⟨b, off, none⟩) n c (x :: xs)) (y : ByteArray) : RN (w.setCell ⟨b, off, none⟩ (.string y)) (some ⟨b, off, none⟩) n c (y :: xs) := by
  obtain ⟨h1, h2, h3, h4⟩ := h
  simp at h1
  rcases h4 with ⟨h4, _⟩ | ⟨b', off', e, h6, h7, h8⟩
  · cases h4
  · simp only [Option.some.injEq, Addr.mk.injEq, and_true] at e
    obtain ⟨rfl, rfl⟩ := e
    have h0 := h7 0 (.string x) (by simp [nV])
    rw [Nat.add_zero] at h0
    refine ⟨by simpa using h1, h2, h3, .inr ⟨b, off, rfl, by simpa [World.setCell] using h6, fun j u hu => ?_, fun j hj => ?_⟩⟩
    · cases j with
      | zero =>
        rw [Nat.add_zero, World.cell?_setCell_same _ _ _ h0]
        simpa [nV] using hu
      | succ j =>
        rw [World.cell?_setCell_other (h := by simp)]
        exact h7 (j + 1) u (by simpa [nV] using hu)
    · cases j with
      | zero =>
        rw [Nat.add_zero, World.cell?_setCell_same _ _ _ h0]
        exact ⟨rfl, by simpa using (h8 0 hj).2⟩
      | succ j =>
        rw [World.cell?_setCell_other (h := by simp)]
        exact ⟨(h8 (j + 1) hj).1, by simpa using (h8 (j + 1) hj).2⟩

/-- The row but its first one. -/
theorem cut_first {b off n c : Nat} (hn : 1 ≤ n) (hc : n ≤ c) : ∃ A, (∀ w, (Instr.slice 27 (.slice (some ⟨b, off, none⟩) n c) (some (.int .i64 1)) none none).run Try.prog w = .ok (.slice A (n - 1) (c - 1)) w) ∧ blk A = some b ∧ ∀ w y L, RN w (some ⟨b, off, none⟩) n c (y :: L) → RN w A (n - 1) (c - 1) L := by
  have hel : Try.prog.underlying 27 = some (.slice (Try.prog.elem 27)) := by kernel_rfl
  refine ⟨if c = 1 then some ⟨b, off, none⟩ else some ⟨b, off + 1, none⟩, fun w => ?_, ?_, fun w y L h => ?_⟩
  · have := run_slice_l w 27 (some ⟨b, off, none⟩) n c hel .i64 ((1 : Nat) : Int) (by omega) (by omega)
    rw [show Try.prog.elem 27 = 31 by kernel_rfl, Try.sizeOf31] at this
    simp only [Result.andThen, sliced, Int.toNat_natCast, Nat.mul_one] at this
    rw [show ((1 : Nat) : Int) = 1 from rfl] at this
    rw [this]
    by_cases h : c = 1
    · simp [h]
    · simp [h, add_none]
  · split <;> rfl
  · by_cases hc1 : c = 1
    · subst hc1
      obtain rfl : n = 1 := by omega
      rw [if_pos rfl]
      exact h.first1
    · rw [if_neg hc1]
      exact h.first.2.2.2

/-- oldest's answer. -/
def OldPost (w : World) (cb o : Nat) (xs : List Value) (a : Option Addr) (n c : Nat) (L : List ByteArray) (e : Ending) (w' : World) : Prop :=
  (L = [] ∧ e = .returned (.tuple #[.string ⟨#[]⟩, .bool false]) ∧ w' = w) ∨
    ∃ L0 x a', L = x :: L0 ∧ e = .returned (.tuple #[.string x, .bool true]) ∧ BoxL w' cb (xs.set o (.slice a' (n - 1) (c - 1))) ∧ RN w' a' (n - 1) (c - 1) L0 ∧ blk a' = blk a ∧ Rw w w' cb (blk a)

set_option maxRecDepth 100000 in
set_option maxHeartbeats 1000000 in
theorem oldest_any (w : World) (cb o : Nat) (xs : List Value) (a : Option Addr) (n c : Nat) (L : List ByteArray) (hbx : BoxL w cb xs) (ho : xs[o]? = some (.slice a n c)) (h : RN w a n c L) (hne : ∀ b, blk a = some b → b ≠ cb) (hn : n ≤ 1000000) :
    Calls Try.prog 48 #[.pointer (some ⟨cb, o, none⟩)] w (OldPost w cb o xs a n c L) := by
  obtain ⟨c0, f0⟩ := hbx.at ho
  have hl := h.1
  cases L with
  | nil =>
    obtain rfl : n = 0 := by simpa using hl.symm
    clear hbx ho h hne
    go_enter Try.func48, Try.ntmps48
    go_wp2
    go_ret2
    unfold OldPost
    exact .inl ⟨rfl, rfl, rfl⟩
  | cons x L0 =>
    have hn1 : 1 ≤ n := by simp at hl; omega
    obtain ⟨b, off, rfl⟩ := h.addr (by omega)
    obtain ⟨_, c1, f1, _⟩ := h.first
    obtain ⟨A, hsl, hA, hR⟩ := cut_first (b := b) (off := off) hn1 h.2.1
    have hbc := hne b rfl
    have hR1 := h.first_put ⟨#[]⟩
    have hbx1 := hbx.keep (w' := w.setCell ⟨b, off, none⟩ (.string ⟨#[]⟩)) (by simp [World.setCell]) (Below.heap_setCell _ _ _ _ (by exact hbc.symm))
    obtain ⟨c2, f2⟩ := hbx1.at ho
    obtain ⟨W, hW⟩ : ∃ W, W = w.setCell ⟨b, off, none⟩ (.string ⟨#[]⟩) := ⟨_, rfl⟩
    have HG := hide (grown_setCell w b off (.string ⟨#[]⟩))
    rw [← hW] at hR1 hbx1 c2 f2 HG
    have HW := hide hW
    have HR := hide (hR _ _ _ hR1)
    have HBX := hide hbx1
    have hp : (0 : Int) < (n : Int) := by omega
    have hz : ((n : Int) == 0) = false := by simp; omega
    clear hbx ho h hne hl hR hR1 hbx1 hW
    go_enter Try.func48, Try.ntmps48
    go_upto_region 5 with fail
    rw [← HW.out]
    go_wp2
    go_ret2
    unfold OldPost
    refine .inr ⟨L0, x, A, rfl, rfl, HBX.out.put o _, ?_, hA, ?_⟩
    · exact HR.out.keep (by simp [World.setCell]) (fun k hk => by
        rw [hA] at hk
        cases hk
        exact Below.heap_setCell _ _ _ _ hbc)
    · exact Kp.trans (b := W) (Kp.ofG HG.out (fun k hk => .inr (by simpa [blk] using hk))) (Kp.put (.inl rfl) _)

/-- A row's cells may be written. -/
theorem own_cell5 {w : World} {B g n c : Nat} {xs : List Value} (h : w.ownsRow B 31 1 (.slice (some ⟨g, 0, none⟩) n c) n xs) (k : Nat) (hk : k < n) : (w.cell? ⟨g, k, none⟩).isSome = true ∧ w.frozen? ⟨g, k, none⟩ = false := by
  rcases h.2 with ⟨e, _⟩ | ⟨g', c', cur, e, h1, h2, h3, h4, h5, h6⟩
  · simp at e
  · simp only [Value.slice.injEq, Option.some.injEq, Addr.mk.injEq] at e
    obtain ⟨⟨rfl, _⟩, _, rfl⟩ := e
    refine ⟨?_, by simp [World.frozen?, h2]⟩
    have := cell_of_row w g k cur 31 (0, 0) h2
    rw [this]
    have : k < cur.size := by omega
    simp [this]

theorem made_names (n : Nat) : (madeCells (Value.string ⟨#[]⟩).cells (n * 1)).toList = List.replicate n (.string ⟨#[]⟩) := by
  simp [madeCells, Value.cells, Nat.mod_one, List.map_const']

theorem set_next {α : Type} (l : List α) (z : α) {k : Nat} {x : α} (hx : l[k]? = some x) : (l.take k ++ List.replicate (l.length - k) z).set k x = l.take (k + 1) ++ List.replicate (l.length - (k + 1)) z := by
  obtain ⟨hk, rfl⟩ := List.getElem?_eq_some_iff.1 hx
  have e : l.length - k = (l.length - (k + 1)) + 1 := by omega
  rw [e, List.replicate_succ, List.set_append_right _ _ (by simp; omega)]
  have e2 : k - (l.take k).length = 0 := by simp; omega
  have e3 : l.take (k + 1) = l.take k ++ [l[k]] := (List.take_append_getElem hk).symm
  rw [e2, List.set_cons_zero, e3, List.append_assoc]
  rfl

set_option maxRecDepth 100000 in
set_option maxHeartbeats 2000000 in
theorem ready_any (w : World) (cb o : Nat) (a : Option Addr) (n c : Nat) (L : List ByteArray) (hc0 : w.cell? ⟨cb, o, none⟩ = some (.slice a n c)) (h : RN w a n c L) (hn : n ≤ 1000000) (hz12 : ∀ x ∈ L, x.size ≤ 12) :
    Calls Try.prog 27 #[.pointer (some ⟨cb, o, none⟩)] w fun e w' => ∃ v, e = .returned v ∧ w'.ownsRow w.heap.size 31 1 v n (nV L) ∧ Below w.heap.size w w' := by
  obtain ⟨i0, hi, hz0, hz1, hz2⟩ := info_parts Try.info31
  have hl := h.1
  have HR := hide h.reads
  have HL := hide hl
  have HZ := hide hz12
  have HC := hide hc0
  clear h hl hz12
  go_enter Try.func27, Try.ntmps27
  go_wp2_with (at_make; go_must (refine wpList_make_full _ rfl (.tmp 10) (.tmp 10) 27 rfl w.heap.size 31 i0 (.string ⟨#[]⟩) 1 Try.underlying27 hi hz0 hz1 .i64 .i64 _ _ n rfl rfl rfl rfl (by rw [hz2]; omega) (by unfold maxLen; omega) (Nat.le_refl _) ?_; intro w1 ho1 hg1; have hc1 := keep_cell HC.out (below_of hg1); have HO := hide ho1; have HB := hide (below_of hg1); clear ho1 hg1))
  generalize hg : w.heap.size = g at *
  clear hc0 hc1
  go_loopw [17] (fun i wr => ∃ k : Nat, k ≤ n ∧ i = .int .i64 (k : Nat) ∧ Hid (Below g w wr ∧ wr.ownsRow g 31 1 (.slice (some ⟨g, 0, none⟩) n n) n ((nV L).take k ++ List.replicate ((nV L).length - k) (.string ⟨#[]⟩)))) (fun i _ => n - (intOf i).toNat)
  case atStart =>
    refine ⟨0, by omega, rfl, hide ⟨HB.out, ?_⟩⟩
    have := HO.out
    rw [made_names] at this
    rw [nV_length, HL.out]
    simpa using this
  case round =>
    obtain ⟨k, hk, rfl, HI⟩ := hrel
    by_cases hlt : k < n
    · obtain ⟨x, hx⟩ : ∃ x, L[k]? = some x := ⟨L[k]'(by rw [HL.out]; exact hlt), List.getElem?_eq_getElem _⟩
      obtain ⟨b, off, rfl, hc⟩ := reads_nV (k := k) (x := x) (HR.out.below (by rw [hg]; exact HI.out.1)) hx
      have c1 := hc.out k x hx
      have hltI : (k : Int) < (n : Int) := by omega
      have A := fun w => tapart_any x (by have := HZ.out x (List.mem_of_getElem? hx); omega) w
      have HXX := hide hx
      clear hc hx
      go_wp2_with (go_at_call 36; go_must (with_reducible refine (A _).mono ?_; (rintro e w5 ⟨rfl, hb5⟩); obtain ⟨ho6, hg6⟩ := stored_own (j := k) (.string x) (own_belowN HI.out.2 hb5); have fz5 : w5.frozen? ⟨g, k, none⟩ = false := (own_cell5 (own_belowN HI.out.2 hb5) k (by omega)).2; obtain ⟨u5, cz5⟩ := Option.isSome_iff_exists.1 (own_cell5 (own_belowN HI.out.2 hb5) k (by omega)).1; have HO6 := hide ho6; have HG6 := hide hg6; have HB5 := hide hb5; clear ho6 hg6 hb5))
      go_roundw
      case rel =>
        refine ⟨k + 1, by omega, by go_num, hide ⟨(HI.out.1.trans (HB5.out.mono (by have := HI.out.1.size; omega))).grown HG6.out (by have := HI.out.1.size; have := HB5.out.size; omega) (fun q hq => by cases hq; omega), ?_⟩⟩
        have := HO6.out
        rw [set_next (nV L) _ (x := .string x) (by simp [nV, HXX.out])] at this
        exact this
      case measure => simp [intOf]; omega
    · obtain rfl : k = n := by omega
      have hltI : ¬ (k : Int) < (k : Int) := by omega
      go_wp2
      go_ret
      refine ⟨_, rfl, ?_, HI.out.1⟩
      have := HI.out.2
      rw [List.take_of_length_le (by rw [nV_length, HL.out]; omega)] at this
      simpa [nV_length, HL.out] using this
end Go.Proofs.Ytandbkbodlbjcaa
