/- instructions. -/
import Derived.Test.YtnkfdpnommjlcaaGreatDoorInsW
import Derived.Test.YtnkfdpnommjlcaaGreatDoorPlainB
namespace Go.Proofs.YtnkfdpnommjlcaaGreatDoor
open Go.RowKit Go.ChangeShapes Go.WideShapes Go.ChangeAt Go.Deep

/-- The first instruction that is wrong, from k on: where, and what; 0: none. -/
def insFrom (lo : Int) (nc nf : Nat) : Nat → List (Int × Int) → Int × Int
  | _, [] => (0, 0)
  | k, i :: r => if insErr lo nc nf i.1 i.2 = 0 then insFrom lo nc nf (k + 1) r else ((k : Int), insErr lo nc nf i.1 i.2)

theorem insFrom_ok {lo : Int} {nc nf : Nat} : ∀ (c : List (Int × Int)) (k : Nat), (∀ x ∈ c, insErr lo nc nf x.1 x.2 = 0) → insFrom lo nc nf k c = (0, 0)
  | [], _, _ => rfl
  | i :: r, k, h => by
    unfold insFrom
    rw [if_pos (h i (by simp))]
    exact insFrom_ok r (k + 1) (fun x hx => h x (by simp [hx]))
theorem insFrom_at {lo : Int} {nc nf : Nat} : ∀ (c : List (Int × Int)) (k j : Nat) (x : Int × Int), c[j]? = some x → (∀ y ∈ c.take j, insErr lo nc nf y.1 y.2 = 0) → insErr lo nc nf x.1 x.2 ≠ 0 → insFrom lo nc nf k c = (((k + j : Nat) : Int), insErr lo nc nf x.1 x.2)
  | [], _, _, _, h, _, _ => by simp at h
  | i :: r, k, 0, x, h, _, hx => by
    simp at h
    subst h
    unfold insFrom
    rw [if_neg hx]; rfl
  | i :: r, k, j + 1, x, h, hh, hx => by
    unfold insFrom
    rw [if_pos (hh i (by simp)), insFrom_at r (k + 1) j x (by simpa using h) (fun y hy => hh y (by simp [hy])) hx]
    congr 2; omega
theorem insErr_nn (lo : Int) (nc nf : Nat) (op n : Int) : 0 ≤ insErr lo nc nf op n := by
  unfold insErr; split <;> (try split) <;> (try split) <;> (try split) <;> (try split) <;> omega

theorem upE_zero (fn p : Int) : upE fn p 0 = .returned (.tuple #[]) := rfl
theorem upE_ne {fn p e : Int} (h : e ≠ 0) : upE fn p e = .panicked [{ v := wrongV fn p e, recovered := false }] := if_neg h
/-- What a look at the instructions leaves. -/
def InsPost (B b : Nat) (x : Wk) (w : World) (q : Int × Int) (r : Ending) (w' : World) : Prop :=
  Below B w w' ∧ r = upE x.fn q.1 q.2 ∧ (q.2 = 0 → ∃ p, AtW w' b { x with p := p })

theorem AtW.turn {w : World} {b : Nat} {x : Wk} (h : AtW w b x) (p : Int) : AtW (w.setCell ⟨b, 5, none⟩ (.int .i64 p)) b { x with p := p } := by
  have := set_row (i := 5) h (.int .i64 p)
  exact this

set_option maxRecDepth 100000 in
set_option maxHeartbeats 1000000 in
theorem instrs_any (B b : Nat) (x : Wk) (code : List (Int × Int)) (w : World) (hx : AtW w b x) (hB : B ≤ b) (hlo : -9223372036854775808 < x.lo ∧ x.lo ≤ 9223372036854775807) (hcn : x.cn ≤ 1000000000) (hnf : x.nf ≤ 1000000000) (hl : code.length = x.cn)
    (hS : ∀ W, Below B w W → Tab W ∧ Reads W x.ca (insV code)) :
    Calls Tryz.prog 69 #[.pointer (some ⟨b, 0, none⟩)] w (InsPost B b x w (insFrom x.lo x.cn x.nf 0 code)) := by
  have CI := fun (p op n : Int) (w : World) (hT : Tab w) (hx : AtW w b { x with p := p }) => ins_any b { x with p := p } op n w hT hx hlo hcn hnf
  have HI := hide (fun (h : ∀ y ∈ code, insErr x.lo x.cn x.nf y.1 y.2 = 0) => insFrom_ok code 0 h)
  have HA := hide (fun (j : Nat) (y : Int × Int) => insFrom_at (lo := x.lo) (nc := x.cn) (nf := x.nf) code 0 j y)
  have hx0 := hx
  have HT := hide (fun (w : World) (q p : Int) (h : AtW w b { x with p := q }) => AtW.turn h p)
  obtain ⟨nm, ar, lo, ca, cn, cc, fn, p0, fa, nf, fc, dv, gv, low⟩ := x
  simp only [] at *
  have x3 := cell_row (i := 3) hx rfl
  generalize insFrom lo cn nf 0 code = q at HI HA ⊢
  go_enter Tryz.func69, Tryz.ntmps69
  go_wp2
  go_loopw [10] (fun i wr => Hid (Below B w wr) ∧ Hid (∃ p, AtW wr b ⟨nm, ar, lo, ca, cn, cc, fn, p, fa, nf, fc, dv, gv, low⟩) ∧ ∃ k : Nat, k ≤ cn ∧ i = .int .i64 (k : Nat) ∧ Hid (∀ y ∈ code.take k, insErr lo cn nf y.1 y.2 = 0)) (fun i _ => cn - (intOf i).toNat)
  case atStart => exact ⟨Below.refl _ _, ⟨_, hx0⟩, 0, Nat.zero_le _, rfl, fun x hx => by simp at hx⟩
  case round =>
    obtain ⟨hbw, ⟨p, hp⟩, k, hk, rfl, hh⟩ := hrel
    by_cases hlt : k < cn
    · have hkc : k < code.length := by omega
      have hSW := hS _ hbw.out
      obtain ⟨cb, off, rfl, y0, y1⟩ := code_at hSW.2 hkc
      have hkx := List.getElem?_eq_getElem hkc
      generalize code[k] = i at y0 y1 hkx
      have HX := hide hkx
      clear hkx
      have hlt' : (k : Int) < (cn : Int) := by omega
      have hyl := cell_some_lt y0
      have hbl := lt_row hp
      have hBw : B ≤ wr.heap.size := by omega
      have z5 := cell_row (i := 5) hp rfl
      have f5 := frozen_row (i := 5) hp
      have hpA := HT.out _ _ (k : Int) hp
      have hbA : Below B wr (wr.setCell ⟨b, 5, none⟩ (.int .i64 (k : Int))) := (Below.refl _ _).setCell (p := ⟨b, 5, none⟩) hB _
      have hsA : (wr.setCell ⟨b, 5, none⟩ (.int .i64 (k : Int))).heap.size = wr.heap.size := by simp [World.setCell]
      have hbC := alloc_below (wr.setCell ⟨b, 5, none⟩ (.int .i64 (k : Int))) (.cells #[.int .i64 i.1, .int .i64 i.2] 55)
      have hpB := hpA.below hbC
      have hbB := hbA.trans (hbC.mono (by rw [hsA]; exact hBw))
      have hiB : ((wr.setCell ⟨b, 5, none⟩ (.int .i64 (k : Int))).alloc (.cells #[.int .i64 i.1, .int .i64 i.2] 55)).heap[wr.heap.size]? = some (.cells [.int .i64 i.1, .int .i64 i.2].toArray 55 (0, 0)) := by
        rw [← hsA]; exact heap_alloc_new _ _
      have HBW := hide (hbw.out.trans hbB)
      have hTB := (hS _ HBW.out).1
      have C := CI (k : Int) i.1 i.2 _ hTB hpB
      have j0 := cell_row (i := 0) hiB rfl
      have j1 := cell_row (i := 1) hiB rfl
      have HPB := hide hpB
      have hsB := hbB.size
      clear CI HT hTB hpB hiB hpA hbA hp hSW hS hx hbB hbC hsA
      cases he : (decide (insErr lo cn nf i.1 i.2 = 0)) with
      | true =>
        simp only [decide_eq_true_eq] at he
        rw [he, upE_zero] at C
        go_wp2_with (go_at_call 85; go_must (refine C.mono ?_; rintro e w2 ⟨rfl, hb2⟩; refine Hid.out ?_))
        refine Lib.hid ?_
        have HP2 := hide (HPB.out.below hb2)
        have HB2 := hide (HBW.out.trans (hb2.mono (Nat.le_trans hBw hsB)))
        clear C HPB HBW
        go_wp2
        go_roundw
        case rel => exact ⟨HB2, ⟨_, HP2.out⟩, k + 1, by omega, by go_num, fun y hy => by
            rw [List.take_add_one, HX.out] at hy
            rcases List.mem_append.1 hy with h | h
            · exact hh.out y h
            · simp only [Option.toList_some, List.mem_singleton] at h
              rw [h, he]⟩
        case measure => simp [intOf]; omega
      | false =>
        simp only [decide_eq_false_iff_not] at he
        have HO := hide (HA.out k i HX.out hh.out he)
        have HE := hide he
        clear HA HI
        generalize insErr lo cn nf i.1 i.2 = er at C HO HE
        rw [upE_ne HE.out] at C
        go_wp2_with (go_at_call 85; go_must (refine C.mono ?_; rintro e w2 ⟨rfl, hb2⟩; refine Hid.out ?_))
        refine Lib.hid ?_
        have HB2 := hide (HBW.out.trans (hb2.mono (Nat.le_trans hBw hsB)))
        clear C HPB HBW
        go_wp2
        refine ⟨rfl, HB2.out, ?_, fun h => ?_⟩
        · rw [HO.out, upE_ne HE.out]; simp
        · rw [HO.out] at h; exact absurd h HE.out
    · have HO := hide (HI.out (fun y hy => hh.out y (by rw [List.take_of_length_le (by omega)]; exact hy)))
      go_wp2
      go_end0
      exact ⟨hbw.out, by rw [HO.out]; rfl, fun _ => ⟨_, hp⟩⟩
end Go.Proofs.YtnkfdpnommjlcaaGreatDoor
