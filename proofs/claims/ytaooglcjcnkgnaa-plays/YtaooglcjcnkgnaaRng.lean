/- A ring in memory, and what its calls do: place, Size, Get, Put; the document's at, Get, Put. -/
import Derived.Test.YtaooglcjcnkgnaaUp
import Derived.Deep.Cut
import Derived.BigRegion
namespace Go.Proofs.Ytaooglcjcnkgnaa
open Go.RowKit Go.ChangeShapes Go.WideShapes Go.ChangeAt Go.Deep

theorem i64_mask (m : Nat) (hm : m < 63) (n : Int) : bits .and .i64 n ((2 ^ m - 1 : Nat) : Int) = n % ((2 ^ m : Nat) : Int) := by
  have hle : 2 ^ m ≤ 2 ^ 62 := Nat.pow_le_pow_right (by decide) (by omega)
  have h1 : (BitVec.ofInt 64 ((2 ^ m - 1 : Nat) : Int)).toNat = 2 ^ m - 1 := by
    rw [BitVec.ofInt_natCast, BitVec.toNat_ofNat]; exact Nat.mod_eq_of_lt (by omega)
  have key : (BitVec.ofInt 64 n &&& BitVec.ofInt 64 ((2 ^ m - 1 : Nat) : Int)).toNat = (n % ((2 ^ 64 : Nat) : Int)).toNat % 2 ^ m := by
    rw [BitVec.toNat_and, BitVec.toNat_ofInt, h1, Nat.and_two_pow_sub_one_eq_mod]
  show IntKind.i64.wrap ((BitVec.ofInt 64 n &&& BitVec.ofInt 64 ((2 ^ m - 1 : Nat) : Int)).toNat : Nat) = _
  have hp : 0 < 2 ^ m := Nat.two_pow_pos m
  have hd : (2 ^ m) ∣ 2 ^ 64 := Nat.pow_dvd_pow 2 (by omega)
  have h2 : (((n % ((2 ^ 64 : Nat) : Int)).toNat % 2 ^ m : Nat) : Int) = n % ((2 ^ m : Nat) : Int) := by
    rw [Int.natCast_emod, Int.toNat_of_nonneg (Int.emod_nonneg _ (by decide))]
    exact Int.emod_emod_of_dvd n (Int.natCast_dvd_natCast.2 hd)
  have h3 : (n % ((2 ^ 64 : Nat) : Int)).toNat % 2 ^ m < 2 ^ m := Nat.mod_lt _ hp
  rw [key, IntKind.wrap_i64, h2]
  have h4 : n % ((2 ^ m : Nat) : Int) < ((2 ^ m : Nat) : Int) := Int.emod_lt_of_pos _ (by omega)
  have h5 : 0 ≤ n % ((2 ^ m : Nat) : Int) := Int.emod_nonneg _ (by omega)
  omega

/-- The place of i among n. -/
def plc (n : Nat) (i : Int) : Nat := (i % (n : Int)).toNat

theorem plc_lt {n : Nat} (h : 1 ≤ n) (i : Int) : plc n i < n := by
  unfold plc
  have h1 := Int.emod_nonneg i (show (n : Int) ≠ 0 by omega)
  have h2 := Int.emod_lt_of_pos i (show 0 < (n : Int) by omega)
  omega

theorem plc_cast {n : Nat} (h : 1 ≤ n) (i : Int) : ((plc n i : Nat) : Int) = i % (n : Int) := by
  unfold plc
  have h1 := Int.emod_nonneg i (show (n : Int) ≠ 0 by omega)
  omega

theorem mask_plc {n : Nat} (h : Pow n) (i : Int) : bits .and .i64 i ((n : Int) - 1) = ((plc n i : Nat) : Int) := by
  have hp := h.pos
  rw [plc_cast hp.1]
  obtain ⟨e, he, rfl⟩ := h
  have := i64_mask e (by omega) i
  rw [← this]
  congr 1
  omega

/-- A ring: its slice lies in the cell o of cb, its places at g. -/
structure RingP (w : World) (cb o g n : Nat) (L : List Int) : Prop where
  pow : Pow n
  len : L.length = n
  box : w.cell? ⟨cb, o, none⟩ = some (.slice (some ⟨g, 0, none⟩) n n)
  own : w.ownsRow 0 3 1 (.slice (some ⟨g, 0, none⟩) n n) n (iV L)
  ne : cb ≠ g

theorem RingP.below {w w' : World} {cb o g n : Nat} {L : List Int} (h : RingP w cb o g n L) (hb : Below w.heap.size w w') : RingP w' cb o g n L :=
  ⟨h.pow, h.len, keep_cell h.box hb, own_below h.own hb, h.ne⟩

theorem RingP.drewN {w : World} {cb o g n : Nat} {L : List Int} (h : RingP w cb o g n L) (q : Nat) : RingP (w.drewN q) cb o g n L := h.below (below_drewN (Below.refl _ _) q)

theorem RingP.lt {w : World} {cb o g n : Nat} {L : List Int} (h : RingP w cb o g n L) : cb < w.heap.size ∧ g < w.heap.size := ⟨cell_some_lt h.box, (h.own.lt g rfl).2⟩

theorem grown_cell {w w' : World} {cb o k : Nat} {v : Value} (h : w.cell? ⟨cb, o, none⟩ = some v) (hg : w.grownBy w' (some k)) (h1 : cb ≠ k) : w'.cell? ⟨cb, o, none⟩ = some v := by
  have hb := hg.block cb (cell_some_lt h) (by simpa using h1)
  rw [World.cell?_of_block (w := w) (a := ⟨cb, o, none⟩) hb]; exact h

theorem RingP.grown {w w' : World} {cb o g n k : Nat} {L : List Int} (h : RingP w cb o g n L) (hg : w.grownBy w' (some k)) (h1 : cb ≠ k) (h2 : g ≠ k) : RingP w' cb o g n L :=
  ⟨h.pow, h.len, grown_cell h.box hg h1, h.own.kept hg (.inr (by simpa [Value.ownBlock] using h2)), h.ne⟩

theorem RingP.cell {w : World} {cb o g n : Nat} {L : List Int} (h : RingP w cb o g n L) (i : Int) : w.cell? ⟨g, plc n i, none⟩ = some (.int .i64 (L.getD (plc n i) 0)) := by
  have hp := plc_lt h.pow.pos.1 i
  have hl : plc n i < L.length := by rw [h.len]; exact hp
  rw [h.own.cellAt (plc n i) (by omega)]
  simp [iV, List.getD, hl]

theorem RingP.put {w : World} {cb o g n : Nat} {L : List Int} (h : RingP w cb o g n L) (k : Nat) (v : Int) : RingP (w.setCell ⟨g, k, none⟩ (.int .i64 v)) cb o g n (L.set k v) ∧ w.grownBy (w.setCell ⟨g, k, none⟩ (.int .i64 v)) (some g) := by
  have hs := h.own.stored k (.int .i64 v)
  refine ⟨⟨h.pow, by simp [h.len], grown_cell h.box hs.2 h.ne, ?_, h.ne⟩, hs.2⟩
  have e : (iV L).set k (.int .i64 v) = iV (L.set k v) := by simp [iV, List.map_set]
  rw [← e]
  exact hs.1

theorem grown_drewN (w : World) (n : Nat) (row : Option Nat) : w.grownBy (w.drewN n) row := ⟨rfl, rfl, rfl, Nat.le_refl _, fun _ _ _ => rfl⟩

/-- What Put leaves. -/
def PutPost (w : World) (cb o g n : Nat) (L : List Int) (i v : Int) (e : Ending) (w' : World) : Prop := e = .returned (.tuple #[]) ∧ RingP w' cb o g n (L.set (plc n i) v) ∧ w.grownBy w' (some g)

set_option maxRecDepth 100000 in
theorem place_any (w : World) (cb o g n : Nat) (L : List Int) (i : Int) (h : RingP w cb o g n L) :
    Calls Try.prog 41 #[.pointer (some ⟨cb, o, none⟩), .int .i64 i] w fun e w' => e = .returned (.pointer (some ⟨g, plc n i, none⟩)) ∧ ∃ q, w' = w.drewN q := by
  have hc := h.box
  have hp := h.pow.pos
  have hm := mask_plc h.pow i
  have hlt := plc_lt hp.1 i
  have hn0 : ((n : Int) == 0) = false := by simp; omega
  have hw : IntKind.i64.wrap ((n : Int) - 1) = (n : Int) - 1 := by rw [IntKind.wrap_i64]; omega
  generalize plc n i = p at *
  obtain ⟨hp1, hp2⟩ := hp
  clear h
  go_enter Try.func41, Try.ntmps41
  go_upto_region 3 with fail
  go_big_quiet (fail)
  go_wp2
  go_ret
  exact ⟨rfl, _, rfl⟩

set_option maxRecDepth 100000 in
/-- Size. -/
theorem size_any (w : World) (cb o g n : Nat) (L : List Int) (h : RingP w cb o g n L) :
    Calls Try.prog 44 #[.pointer (some ⟨cb, o, none⟩)] w fun e w' => e = .returned (.int .i64 (n : Int)) ∧ w' = w := by
  have hc := h.box
  have hp := h.pow.pos
  have hmx : max (1 : Int) (n : Int) = (n : Int) := by omega
  clear h
  go_enter Try.func44, Try.ntmps44
  go_wp2
  go_ret
  exact ⟨rfl, rfl⟩

set_option maxRecDepth 100000 in
/-- Get. -/
theorem get_any (w : World) (cb o g n : Nat) (L : List Int) (i : Int) (h : RingP w cb o g n L) :
    Calls Try.prog 32 #[.pointer (some ⟨cb, o, none⟩), .int .i64 i] w fun e w' => e = .returned (.int .i64 (L.getD (plc n i) 0)) ∧ ∃ q, w' = w.drewN q := by
  have C17 := hide (place_any w cb o g n L i h)
  have hc := h.cell i
  generalize L.getD (plc n i) 0 = x at *
  generalize plc n i = p at *
  clear h
  go_enter Try.func32, Try.ntmps32
  go_wp2_with (go_at_call 41; go_must ((with_reducible refine C17.out.mono ?_); rintro e w1 ⟨rfl, q, rfl⟩))
  go_ret
  exact ⟨rfl, _, rfl⟩

set_option maxRecDepth 100000 in
/-- Put. -/
theorem put_any (w : World) (cb o g n : Nat) (L : List Int) (i v : Int) (h : RingP w cb o g n L) :
    Calls Try.prog 35 #[.pointer (some ⟨cb, o, none⟩), .int .i64 i, .int .i64 v] w (PutPost w cb o g n L i v) := by
  have C17 := hide (place_any w cb o g n L i h)
  have hc := h.cell i
  have hf := h.own.frozenAt (plc n i)
  have HP := hide (fun q => (h.drewN q).put (plc n i) v)
  have HN := hide (show ∀ e w', e = .returned (.tuple #[]) ∧ (∃ q, w' = (w.drewN q).setCell ⟨g, plc n i, none⟩ (.int .i64 v)) → PutPost w cb o g n L i v e w' from fun e w' ⟨h1, q, h2⟩ => by
    subst h2
    exact ⟨h1, (HP.out q).1, grown_trans (grown_drewN w q _) (HP.out q).2⟩)
  refine Calls.mono ?_ HN.out
  generalize L.getD (plc n i) 0 = x at *
  generalize plc n i = p at *
  clear h HP HN
  go_enter Try.func35, Try.ntmps35
  go_wp2_with (go_at_call 41; go_must ((with_reducible refine C17.out.mono ?_); rintro e w1 ⟨rfl, q, rfl⟩))
  exact bodyPost_end (results_none rfl _ _ _) rfl ⟨rfl, _, rfl⟩

set_option maxRecDepth 100000 in
/-- The document's at. -/
theorem at_any (w : World) (cb o g n : Nat) (L : List Int) (i : Int) (h : RingP w cb o g n L) :
    Calls Try.prog 42 #[.pointer (some ⟨cb, o, none⟩), .int .i64 i] w fun e w' => e = .returned (.int .i64 (plc n i : Int)) ∧ w' = w := by
  have hc := h.box
  have hp := h.pow.pos
  have hm := mask_plc h.pow i
  have hw : IntKind.i64.wrap ((n : Int) - 1) = (n : Int) - 1 := by rw [IntKind.wrap_i64]; omega
  generalize plc n i = p at *
  obtain ⟨hp1, hp2⟩ := hp
  clear h
  go_enter Try.func42, Try.ntmps42
  go_wp2
  go_ret
  exact ⟨rfl, rfl⟩

set_option maxRecDepth 100000 in
/-- The document's Get. -/
theorem rget_any (w : World) (cb o g n : Nat) (L : List Int) (i : Int) (h : RingP w cb o g n L) :
    Calls Try.prog 33 #[.pointer (some ⟨cb, o, none⟩), .int .i64 i] w fun e w' => e = .returned (.int .i64 (L.getD (plc n i) 0)) ∧ ∃ q, w' = w.drewN q := by
  have hb := h.box
  have C18 := hide (fun q => at_any (w.drewN q) cb o g n L i (h.drewN q))
  have hc := h.cell i
  have hlt := plc_lt h.pow.pos.1 i
  generalize L.getD (plc n i) 0 = x at *
  generalize plc n i = p at *
  clear h
  go_enter Try.func33, Try.ntmps33
  go_upto_region 1 with fail
  go_big_quiet (first | (go_at_call 42; with_reducible exact Calls.quiet_of_same (C18.out _)))
  go_wp2
  go_ret
  exact ⟨rfl, _, rfl⟩

set_option maxRecDepth 100000 in
/-- The document's Put. -/
theorem rput_any (w : World) (cb o g n : Nat) (L : List Int) (i v : Int) (h : RingP w cb o g n L) :
    Calls Try.prog 36 #[.pointer (some ⟨cb, o, none⟩), .int .i64 i, .int .i64 v] w (PutPost w cb o g n L i v) := by
  have hb := h.box
  have C18 := hide (at_any w.drew cb o g n L i (h.drewN 1))
  have hc := h.cell i
  have hf := h.own.frozenAt (plc n i)
  have hlt := plc_lt h.pow.pos.1 i
  have HP := hide (fun q => (h.drewN q).put (plc n i) v)
  have HN := hide (show ∀ e w', e = .returned (.tuple #[]) ∧ (∃ q, w' = (w.drewN q).setCell ⟨g, plc n i, none⟩ (.int .i64 v)) → PutPost w cb o g n L i v e w' from fun e w' ⟨h1, q, h2⟩ => by
    subst h2
    exact ⟨h1, (HP.out q).1, grown_trans (grown_drewN w q _) (HP.out q).2⟩)
  refine Calls.mono ?_ HN.out
  generalize L.getD (plc n i) 0 = x at *
  generalize plc n i = p at *
  have hst : (w.setCell ⟨g, p, none⟩ (.int .i64 v)).drew.cell? ⟨cb, o, none⟩ = some (.slice (some ⟨g, 0, none⟩) n n) := by
    have := World.cell?_of_block (w := w) (w' := w.setCell ⟨g, p, none⟩ (.int .i64 v)) (a := ⟨cb, o, none⟩) (Below.heap_setCell _ _ _ _ h.ne)
    rw [hb] at this
    simpa using this
  clear h HP HN
  go_enter Try.func36, Try.ntmps36
  go_upto_region 0 with fail
  go_region_held3 (fun W => W.cell? ⟨cb, o, none⟩ = some (.slice (some ⟨g, 0, none⟩) n n)) (first | exact hb | exact hst | go_keep) (first | (go_at_call 42; (with_reducible refine C18.out.mono ?_); rintro e w1 ⟨rfl, rfl⟩))
  exact bodyPost_end (results_none rfl _ _ _) rfl ⟨rfl, 1, rfl⟩
end Go.Proofs.Ytaooglcjcnkgnaa
