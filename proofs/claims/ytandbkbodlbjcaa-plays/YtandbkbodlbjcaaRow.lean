/- A table's row of ready tasks: line, newest, oldest. -/
import Derived.Test.YtandbkbodlbjcaaSet
import Derived.Lib.RowBridge
import Derived.Deep.MidRow
namespace Go.Proofs.Ytandbkbodlbjcaa
open Go.RowKit Go.ChangeShapes Go.WideShapes Go.ChangeAt Go.Deep Go.Maps Go.Sort

/-- Written are the table's block and the row's. -/
abbrev Rw (w w' : World) (cb : Nat) (r : Option Nat) : Prop := Kp (fun k => k = cb ∨ r = some k) w w'

theorem nV_size (xs : List ByteArray) : (nV xs).length = xs.length := nV_length xs

set_option maxRecDepth 100000 in
set_option maxHeartbeats 1000000 in
theorem line_any (w : World) (cb o : Nat) (xs : List Value) (a : Option Addr) (n c : Nat) (L : List ByteArray) (x : ByteArray) (hbx : BoxL w cb xs) (ho : xs[o]? = some (.slice a n c)) (h : RN w a n c L) (hne : ∀ b, blk a = some b → b ≠ cb) (hn : n ≤ 1000000) :
    Calls Try.prog 37 #[.pointer (some ⟨cb, o, none⟩), .string x] w fun e w' => e = .returned (.tuple #[]) ∧ ∃ a' c', BoxL w' cb (xs.set o (.slice a' (n + 1) c')) ∧ RN w' a' (n + 1) c' (L ++ [x]) ∧ Rw w w' cb (blk a) ∧ (blk a' = blk a ∨ ∃ b', blk a' = some b' ∧ w.heap.size ≤ b' ∧ b' < w'.heap.size) := by
  have HBX := hide hbx
  have HO := hide ho
  have HNE := hide hne
  obtain ⟨c0, f0⟩ := hbx.at ho
  have hb1 := below_new w (.cells #[.string x] 31)
  have hR1 := h.below hb1
  have hy : Reads (w.alloc (.cells #[.string x] 31)) (some ⟨w.heap.size, 0, none⟩) (nV [x]) := reads_new w [.string x] 31
  have HB1 := hide hb1
  have HLT := hide (fun b hb => h.lt (b := b) hb)
  clear hbx ho h hne hb1
  go_enter Try.func37, Try.ntmps37
  go_wp2_with (at_builtin; refine append_n rfl (.tmp 8) (.tmp 10) rfl a n c L rfl hR1 hn w.heap.size x rfl hy ?_; intro a' c' w1 hR2 hg2 hw2; obtain ⟨c2, f2⟩ := (((HBX.out.below HB1.out).keep hg2.size (hg2.block cb (HBX.out.below HB1.out).1 (fun e => HNE.out cb e.symm rfl))).at HO.out); have HR2 := hide hR2; have HG2 := hide hg2; have HW2 := hide hw2; clear hR2 hg2 hw2)
  have hbx2 := (HBX.out.below HB1.out).keep HG2.out.size (HG2.out.block cb (HBX.out.below HB1.out).1 (fun e => HNE.out cb e.symm rfl))
  have hs1 := HB1.out.size
  refine bodyPost_end (results_none rfl _ _ _) rfl ⟨rfl, a', c', hbx2.put o _, ?_, ?_, ?_⟩
  · refine HR2.out.keep (by simp [World.setCell]) (fun b hb => ?_)
    have hbc : b ≠ cb := by
      rcases HW2.out with e | ⟨b', e, h1, h2⟩
      · exact HNE.out b (by rw [← e]; exact hb)
      · rw [hb] at e; cases e
        have := HBX.out.1
        omega
    exact Below.heap_setCell _ _ _ _ hbc
  · refine (Kp.ofB HB1.out).trans (Kp.trans (b := w1) (Kp.ofG HG2.out (fun k hk => .inr hk)) (Kp.put (.inl rfl) _))
  · rcases HW2.out with e | ⟨b', e, h1, h2⟩
    · exact .inl e
    · exact .inr ⟨b', e, by omega, by simpa [World.setCell] using h2⟩

theorem grown_setCells (b : Nat) : ∀ (vs : List Value) (o : Nat) (w : World), w.grownBy (w.setCells b o vs) (some b)
  | [], _, w => grown_refl w _
  | v :: r, o, w => grown_trans (grown_setCell w b o v) (grown_setCells b r (o + 1) (w.setCell ⟨b, o, none⟩ v))

/-- A row that is written anew, in its own cells. -/
theorem RN.cells {w : World} {b off n c : Nat} {L : List ByteArray} (h : RN w (some ⟨b, off, none⟩) n c L) (K : List ByteArray) (hK : K.length ≤ c) : RN (w.setCells b off (nV K)) (some ⟨b, off, none⟩) K.length c K := by
  obtain ⟨h1, h2, h3, h4⟩ := h
  rcases h4 with ⟨h4, _⟩ | ⟨b', off', e, h6, h7, h8⟩
  · cases h4
  · simp only [Option.some.injEq, Addr.mk.injEq, and_true] at e
    obtain ⟨rfl, rfl⟩ := e
    refine ⟨rfl, hK, h3, .inr ⟨b, off, rfl, ?_, fun j u hu => ?_, fun j hj => ⟨?_, ?_⟩⟩⟩
    · exact Nat.lt_of_lt_of_le h6 (grown_setCells b _ _ _).size
    · obtain ⟨hj, rfl⟩ := List.getElem?_eq_some_iff.1 hu
      exact World.cell?_setCells_in b (nV K) off w (fun i hi => (h8 i (by rw [nV_length] at hi; omega)).1) j hj
    · exact World.isSome_setCells b _ _ _ _ (h8 j hj).1
    · rw [World.frozen?_setCells]; exact (h8 j hj).2
theorem RN.cut {w : World} {a : Option Addr} {n c m : Nat} {L : List ByteArray} (h : RN w a n c L) (hm : m ≤ n) : RN w a m c (L.take m) := by
  obtain ⟨h1, h2, h3, h4⟩ := h
  refine ⟨by simp; omega, by omega, h3, ?_⟩
  rcases h4 with h4 | ⟨b, off, e, h6, h7, h8⟩
  · exact .inl h4
  · refine .inr ⟨b, off, e, h6, fun j u hu => h7 j u ?_, h8⟩
    simp only [nV, List.map_take, List.getElem?_take] at hu
    split at hu
    · exact hu
    · cases hu

theorem holds_rn {w : World} {b off n c : Nat} {L : List ByteArray} (h : RN w (some ⟨b, off, none⟩) n c L) : Holds encStr w b off (ssOf L).toArray := by
  obtain ⟨h1, h2, h3, h4⟩ := h
  rcases h4 with ⟨h4, _⟩ | ⟨b', off', e, h6, h7, h8⟩
  · cases h4
  · simp only [Option.some.injEq, Addr.mk.injEq, and_true] at e
    obtain ⟨rfl, rfl⟩ := e
    intro j hj
    have hj' : j < L.length := by simpa [ssOf] using hj
    refine ⟨?_, (h8 j (by omega)).2⟩
    have := h7 j (.string L[j]) (by simp [nV, hj'])
    rw [this]
    simp [ssOf, hj', encStr, getElem!_pos]

set_option maxRecDepth 100000 in
/-- slices.Delete of the last one. -/
theorem delete_last (w : World) (b off c : Nat) (L : List ByteArray) (x : ByteArray) (h : RN w (some ⟨b, off, none⟩) (L.length + 1) c (L ++ [x])) :
    Calls Try.prog 52 #[.slice (some ⟨b, off, none⟩) (L.length + 1) c, .int .i64 (L.length : Nat), .int .i64 ((L.length + 1 : Nat) : Int)] w fun e w' => e = .returned (.slice (some ⟨b, off, none⟩) L.length c) ∧ RN w' (some ⟨b, off, none⟩) L.length c L ∧ w.grownBy w' (some b) := by
  have hl : (ssOf (L ++ [x])).length = L.length + 1 := by simp [ssOf]
  have h3 := h.2.2.1
  have hc := AnyG.slices_Delete_string Try.laysG46 b off c L.length (L.length + 1) (ssOf (L ++ [x])) w (holds_rn h) (by have := h.2.1; omega) (by unfold maxLen at h3; omega) (by omega) (by omega)
  rw [hl] at hc
  change Calls Try.prog 52 #[.slice (some ⟨b, off, none⟩) (L.length + 1) c, .int .i64 (L.length : Nat), .int .i64 ((L.length + 1 : Nat) : Int)] w _ at hc
  refine hc.mono ?_
  rintro e w' ⟨rfl, q, rfl⟩
  have e1 : (ssOf (L ++ [x])).take L.length ++ (ssOf (L ++ [x])).drop (L.length + 1) ++ List.replicate (L.length + 1 - L.length) [] = ssOf (L ++ [⟨#[]⟩]) := by
    rw [List.drop_of_length_le (by omega)]
    simp [ssOf]
  rw [e1, Lib.putRow_eq_setCells encStr w b off (ssOf (L ++ [x])).toArray (ssOf (L ++ [(⟨#[]⟩ : ByteArray)])) q (holds_rn h) (by simp [ssOf])]
  rw [show (ssOf (L ++ [(⟨#[]⟩ : ByteArray)])).map encStr = nV (L ++ [⟨#[]⟩]) by rw [nV_eV]; rfl]
  refine ⟨by rw [show L.length + 1 - (L.length + 1 - L.length) = L.length by omega], ?_, ?_⟩
  · have h4 : RN (w.drewN q) (some ⟨b, off, none⟩) (L.length + 1) c (L ++ [x]) := h
    have h5 := (h4.cells (L ++ [⟨#[]⟩]) (by have := h.2.1; simp; omega)).cut (m := L.length) (by simp)
    simpa using h5
  · have g := grown_setCells b (nV (L ++ [⟨#[]⟩])) off (w.drewN q)
    exact ⟨g.os, g.tape, g.output, g.size, fun k hk hne => g.block k hk hne⟩

/-- newest's answer. -/
def NewPost (w : World) (cb o : Nat) (xs : List Value) (a : Option Addr) (n c : Nat) (L : List ByteArray) (e : Ending) (w' : World) : Prop :=
  (L = [] ∧ e = .returned (.tuple #[.string ⟨#[]⟩, .bool false]) ∧ w' = w) ∨
    ∃ L0 x, L = L0 ++ [x] ∧ e = .returned (.tuple #[.string x, .bool true]) ∧ BoxL w' cb (xs.set o (.slice a (n - 1) c)) ∧ RN w' a (n - 1) c L0 ∧ Rw w w' cb (blk a)

set_option maxRecDepth 100000 in
set_option maxHeartbeats 1000000 in
theorem newest_any (w : World) (cb o : Nat) (xs : List Value) (a : Option Addr) (n c : Nat) (L : List ByteArray) (hbx : BoxL w cb xs) (ho : xs[o]? = some (.slice a n c)) (h : RN w a n c L) (hne : ∀ b, blk a = some b → b ≠ cb) (hn : n ≤ 1000000) :
    Calls Try.prog 40 #[.pointer (some ⟨cb, o, none⟩)] w (NewPost w cb o xs a n c L) := by
  obtain ⟨c0, f0⟩ := hbx.at ho
  have hl := h.1
  rcases L.eq_nil_or_concat with rfl | ⟨L0, x, hLx⟩
  · obtain rfl : n = 0 := by simpa using hl.symm
    clear hbx ho h hne
    go_enter Try.func40, Try.ntmps40
    go_wp2
    go_ret2
    unfold NewPost
    exact .inl ⟨rfl, rfl, rfl⟩
  · rw [List.concat_eq_append] at hLx
    subst hLx
    obtain rfl : n = L0.length + 1 := by simpa using hl.symm
    obtain ⟨b, off, rfl⟩ := h.addr (by omega)
    obtain ⟨_, c1, hR0⟩ := h.last
    rw [show L0.length + 1 - 1 = L0.length by omega] at c1 hR0
    have C := delete_last w b off c L0 x h
    have hbc := hne b rfl
    have HBX := hide hbx
    have HO := hide ho
    have hcap := h.2.1
    have h9 := h.2.2.1
    unfold maxLen at h9
    generalize hm : L0.length = m at *
    obtain ⟨N, hN⟩ : ∃ N, N = m + 1 := ⟨_, rfl⟩
    rw [← hN] at C c0 hcap hn HO ⊢
    have hq1 : (N : Int) - 1 = (m : Int) := by omega
    have hq2 : (m : Int) + 1 = (N : Int) := by omega
    have hq3 : ¬ (m : Int) < 0 := by omega
    have hq4 : m < N := by omega
    clear hbx ho h hne hl hR0
    have HM := hide hm
    have HN := hide hN
    clear hm hN
    go_enter Try.func40, Try.ntmps40
    go_wp2_with (go_at_call 52; go_must ((with_reducible refine C.mono ?_); rintro e w1 ⟨rfl, hR1, hg1⟩; obtain ⟨c2, f2⟩ := ((HBX.out.keep hg1.size (hg1.block cb HBX.out.1 (by simpa using hbc.symm))).at HO.out); have HR1 := hide hR1; have HG1 := hide hg1; clear hR1 hg1))
    go_ret2
    have hbx1 := HBX.out.keep HG1.out.size (HG1.out.block cb HBX.out.1 (by simpa using hbc.symm))
    unfold NewPost
    refine .inr ⟨L0, x, rfl, rfl, ?_, ?_, ?_⟩
    · rw [show N - 1 = m by have := HN.out; omega]; exact hbx1.put o _
    · rw [show N - 1 = m by have := HN.out; omega]
      exact HR1.out.keep (by simp [World.setCell]) (fun k hk => by
        simp [blk] at hk
        subst hk
        exact Below.heap_setCell _ _ _ _ hbc)
    · exact Kp.trans (b := w1) (Kp.ofG HG1.out (fun k hk => .inr (by simpa [blk] using hk))) (Kp.put (.inl rfl) _)
end Go.Proofs.Ytandbkbodlbjcaa
