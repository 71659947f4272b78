/- find: which function of a list has a name. -/
import Derived.Test.YtnkfdpnommjlcaaGreatDoorName
namespace Go.Proofs.YtnkfdpnommjlcaaGreatDoor
open Go.RowKit Go.ChangeShapes Go.WideShapes Go.ChangeAt Go.Deep

/-- A function as its four cells hold it. -/
structure FR where
  name : ByteArray
  args : Int
  locals : Int
  code : Value
instance : Inhabited FR := ⟨⟨⟨#[]⟩, 0, 0, .slice none 0 0⟩⟩
def FR.enc (x : FR) : List Value := [.string x.name, .int .i64 x.args, .int .i64 x.locals, x.code]

/-- Which of them has that name; -1: none. -/
def findL (nm : ByteArray) (fs : List FR) : Int := Lib.idxBy (fun _ (y : FR) => y.name.toList == nm.toList) fs default

/-- The functions' cells lie there. -/
def FReads (w : World) (a : Option Addr) (fs : List FR) : Prop := fs = [] ∨ ∃ b off, a = some ⟨b, off, none⟩ ∧ b < w.heap.size ∧ ∀ j, j < fs.length → ∀ i v, (FR.enc fs[j]!)[i]? = some v → w.cell? ⟨b, off + j * 4 + i, none⟩ = some v

theorem FReads.below {w w' : World} {a : Option Addr} {fs : List FR} (h : FReads w a fs) (hb : Below w.heap.size w w') : FReads w' a fs := by
  rcases h with h | ⟨b, off, rfl, hl, h⟩
  · exact .inl h
  · exact .inr ⟨b, off, rfl, Nat.lt_of_lt_of_le hl hb.size, fun j hj i v hv => keep_cell (h j hj i v hv) hb⟩

set_option maxRecDepth 100000 in
set_option maxHeartbeats 400000 in
theorem pred_any (nm : ByteArray) (b : Nat) (w : World) (hb : b < w.heap.size) (hc : w.cell? ⟨b, 0, none⟩ = some (.string nm)) :
    PredBelow Tryz.prog 108 #[.pointer (some ⟨b, 0, none⟩)] (fun x : FR => .agg (FR.enc x).toArray) (fun x => x.name.toList == nm.toList) w := fun W x hW => by
  have hc' : W.cell? ⟨b, 0, none⟩ = some (.string nm) := (hW.cell (p := ⟨b, 0, none⟩) hb).trans hc
  have hb' : b < W.heap.size := Nat.lt_of_lt_of_le hb hW.size
  obtain ⟨xn, xa, xl, xc⟩ := x
  show Calls Tryz.prog 108 #[.agg #[.string xn, .int .i64 xa, .int .i64 xl, xc], .pointer (some ⟨b, 0, none⟩)] W _
  clear hc hb
  go_enter Tryz.func108, Tryz.ntmps108
  go_wp2
  go_ret
  exact ⟨rfl, hW.alloc hW.size _⟩

set_option maxRecDepth 100000 in
set_option maxHeartbeats 400000 in
theorem idx_nil (a : Option Addr) (f : Value) (cap : Nat) (w : World) : Calls Tryz.prog 98 #[.slice a 0 cap, f] w fun e w' => e = .returned (.int .i64 (-1)) ∧ Below w.heap.size w w' := by
  go_enter Tryz.func98, Tryz.ntmps98
  go_wp2
  go_loopw [8] (fun i wr => wr = w ∧ i = .int .i64 0) (fun _ _ => 0)
  case atStart => exact ⟨rfl, rfl⟩
  case round =>
    obtain ⟨rfl, rfl⟩ := hrel
    go_wp2
    go_ret
    exact ⟨rfl, Below.refl _ _⟩

set_option maxRecDepth 100000 in
set_option maxHeartbeats 400000 in
theorem find_any (nm : ByteArray) (a : Option Addr) (cap : Nat) (n : Nat) (fs : List FR) (hn : fs.length = n) (hbig : n ≤ 9223372036854775807) (w : World) (hr : FReads w a fs) :
    Calls Tryz.prog 96 #[.string nm, .slice a n cap] w fun e w' => e = .returned (.int .i64 (findL nm fs)) ∧ Below w.heap.size w w' := by
  have hb1 : Below w.heap.size w (w.alloc (.cells #[.string nm] 9)) := (Below.refl _ _).alloc (Nat.le_refl _) _
  have hr1 := hr.below hb1
  rcases hr1 with rfl | ⟨b, off, rfl, hlt, hc⟩
  · have C := fun f w => idx_nil a f cap w
    have : n = 0 := by rw [← hn]; rfl
    subst this
    have HO := hide (show findL nm [] = -1 from rfl)
    go_enter Tryz.func96, Tryz.ntmps96
    go_wp2_with (go_at_call 98; go_must (refine (C _ _).mono ?_; rintro e w1 ⟨rfl, hb2⟩))
    go_ret
    exact ⟨by rw [HO.out]; rfl, hb1.trans (hb2.mono (by simp))⟩
  · have hp := pred_any nm w.heap.size (w.alloc (.cells #[.string nm] 9)) (by simp) (by simp)
    have C : Calls Tryz.prog 98 #[.slice (some ⟨b, off, none⟩) n cap, .func (.func 108) #[] #[.pointer (some ⟨w.heap.size, 0, none⟩)]] (w.alloc (.cells #[.string nm] 9)) fun e w' => e = .returned (.int .i64 (findL nm fs)) ∧ Below (w.alloc (.cells #[.string nm] 9)).heap.size (w.alloc (.cells #[.string nm] 9)) w' := by
      have D := AnyQ.slices_IndexFunc Tryz.laysH6 4 Tryz.isAgg58 Tryz.sizeOf58 FR.enc (fun _ => rfl) (fun x => x.name.toList == nm.toList) 108 #[.pointer (some ⟨w.heap.size, 0, none⟩)] (enters_of Tryz.func108 (by kernel_rfl) rfl) b off n cap fs _ hp (by omega) hbig hlt hc
      rw [List.take_of_length_le (by omega)] at D
      exact D
    generalize findL nm fs = r at C ⊢
    clear hc hr hp
    go_enter Tryz.func96, Tryz.ntmps96
    go_wp2_with (go_at_call 98; go_must (refine C.mono ?_; rintro e w1 ⟨rfl, hb2⟩))
    go_ret
    exact ⟨rfl, hb1.trans (hb2.mono (by simp))⟩
end Go.Proofs.YtnkfdpnommjlcaaGreatDoor
