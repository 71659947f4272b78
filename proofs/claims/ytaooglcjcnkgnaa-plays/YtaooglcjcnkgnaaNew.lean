/- ring.New, and the document's NewRing. -/
import Derived.Test.YtaooglcjcnkgnaaRng
namespace Go.Proofs.Ytaooglcjcnkgnaa
open Go.RowKit Go.ChangeShapes Go.WideShapes Go.ChangeAt Go.Deep

/-- The first k numbers of l, put one behind the other from place 0 on. -/
def fillK (n : Nat) (L l : List Int) : Nat → List Int
  | 0 => L
  | k + 1 => (fillK n L l k).set (plc n (k : Int)) (l.getD k 0)

/-- What New leaves. -/
def NewPost (s : Int) (l : List Int) (w : World) (e : Ending) (w' : World) : Prop :=
  ∃ cb g n, e = .returned (.pointer (some ⟨cb, 0, none⟩)) ∧ UpTo s n ∧ RingP w' cb 0 g n (fillK n (List.replicate n 0) l l.length) ∧ w.heap.size ≤ cb ∧ w.heap.size ≤ g ∧ Below w.heap.size w w'

theorem own_mono3 {w : World} {b b' n : Nat} {v : Value} {xs : List Value} (h : w.ownsRow b 3 1 v n xs) (hb : b' ≤ b) : w.ownsRow b' 3 1 v n xs := by
  refine ⟨h.1, ?_⟩
  rcases h.2 with h | ⟨g, cap, cur, e, h1, h2⟩
  · exact .inl h
  · exact .inr ⟨g, cap, cur, e, by omega, h2⟩

theorem ring_made {w w1 : World} {n : Nat} (t : TypeId) (hn : Pow n) (ho : w1.ownsRow w.heap.size 3 1 (.slice (some ⟨w.heap.size, 0, none⟩) n n) n (madeCells (Value.int IntKind.i64 0).cells (n * 1)).toList) (hg : w.grownBy w1 none) :
    RingP (w1.alloc (.cells #[.slice (some ⟨w.heap.size, 0, none⟩) n n] t)) w1.heap.size 0 w.heap.size n (List.replicate n 0) ∧ Below w.heap.size w (w1.alloc (.cells #[.slice (some ⟨w.heap.size, 0, none⟩) n n] t)) ∧ w.heap.size ≤ w1.heap.size := by
  have hb : Below w.heap.size w w1 := (Below.refl _ _).grown hg (Nat.le_refl _) (fun k hk => by cases hk)
  rw [made_zeros] at ho
  have hlt := (ho.lt w.heap.size rfl).2
  refine ⟨⟨hn, by simp, (by rw [World.cell?_alloc_at _ _ _ _ rfl]; simp), World.ownsRow.alloc (own_mono3 ho (Nat.zero_le _)) _, by omega⟩, hb.alloc hb.size _, hb.size⟩

theorem iv_at {w : World} {a : Option Addr} {ns : List Int} {k : Nat} (h : Reads w a (iV ns)) (hk : k < ns.length) : ∃ b off, a = some ⟨b, off, none⟩ ∧ w.cell? ⟨b, off + k, none⟩ = some (.int .i64 (ns.getD k 0)) := by
  rcases h with h | ⟨b, off, e, h⟩
  · have : ns = [] := by simpa [iV] using h
    subst this; simp at hk
  · exact ⟨b, off, e, h k _ (by simp [iV, List.getD, hk])⟩

set_option maxRecDepth 100000 in
set_option maxHeartbeats 1000000 in
/-- New. -/
theorem new_any (s : Int) (a : Option Addr) (m c : Nat) (l : List Int) (w : World) (hl : l.length = m) (hm : m ≤ 1000000) (hr : Reads w a (iV l)) :
    Calls Try.prog 24 #[.int .i64 s, .slice a m c] w (NewPost s l w) := by
  obtain ⟨i0, hi, hz0, hz1, hz2⟩ := info_parts Try.info3
  have HL := hide hl
  have HR := hide hr
  have C16 := hide (roundUp_any s w)
  clear hl hr
  go_enter Try.func24, Try.ntmps24
  go_wp2_with (first
    | (go_at_call 34; go_must ((with_reducible refine C16.out.mono ?_); rintro e w0 ⟨hU, rfl⟩; obtain ⟨n, rfl, hU⟩ := hU; have HU := hide hU; have hn1 := hU.1.pos; obtain ⟨hn1, hn2⟩ := hn1; clear hU))
    | (at_make; go_must (refine wpList_make_full _ rfl (.tmp 9) (.tmp 9) 38 rfl w0.heap.size 3 i0 (.int .i64 0) 1 Try.underlying38 hi hz0 hz1 .i64 .i64 _ _ n rfl rfl rfl rfl (by rw [hz2]; omega) (by unfold maxLen; omega) (Nat.le_refl _) ?_; intro w1 ho1 hg1; have HM := hide (ring_made 46 HU.out.1 ho1 hg1); clear ho1 hg1)))
  generalize hV : w1.alloc (.cells #[.slice (some ⟨w0.heap.size, 0, none⟩) n n] 46) = V at *
  have HV := hide hV
  clear hV
  have HM0 := hide HM.out.2.2
  generalize hcb : w1.heap.size = cb at HM HM0 ⊢
  have HCB := hide hcb
  clear hcb
  generalize hgg : w0.heap.size = g at HM HM0 ⊢
  have HG := hide hgg
  clear hgg
  go_loopw [15] (fun i wr => Hid (Below w0.heap.size w0 wr) ∧ ∃ k : Nat, k ≤ m ∧ i = .int .i64 (k : Nat) ∧ Hid (RingP wr cb 0 g n (fillK n (List.replicate n 0) l k))) (fun i _ => m - (intOf i).toNat)
  case atStart => exact ⟨hide (by rw [HG.out]; exact HM.out.2.1), 0, Nat.zero_le _, rfl, hide HM.out.1⟩
  case round =>
    obtain ⟨HB, k, hk, rfl, HRg⟩ := hrel
    by_cases hlt : k < m
    · obtain ⟨b, off, rfl, hc0⟩ := iv_at HR.out (show k < l.length by have := HL.out; omega)
      have hc := keep_cell hc0 HB.out
      have C9 := hide (put_any _ cb 0 g n _ (k : Int) (l.getD k 0) HRg.out)
      have HF := hide (show fillK n (List.replicate n 0) l (k + 1) = (fillK n (List.replicate n 0) l k).set (plc n (k : Int)) (l.getD k 0) from rfl)
      clear hc0
      generalize l.getD k 0 = x at *
      go_wp2_with (go_at_call 35; go_must ((with_reducible refine C9.out.mono ?_); rintro e w3 ⟨rfl, hR3, hg3⟩; have HR3 := hide hR3; have HG3 := hide hg3; clear hR3 hg3))
      go_roundw
      case rel => exact ⟨hide (HB.out.grown HG3.out HB.out.size (fun k hk => by cases hk; have := HG.out; omega)), k + 1, by omega, by go_num, hide (by rw [HF.out]; exact HR3.out)⟩
      case measure => simp [intOf]; omega
    · obtain rfl : k = m := by omega
      go_wp2
      go_ret
      exact ⟨cb, g, n, rfl, HU.out, by rw [HL.out]; exact HRg.out, by have := HM0.out; have := HG.out; omega, by have := HG.out; omega, HB.out⟩
end Go.Proofs.Ytaooglcjcnkgnaa
