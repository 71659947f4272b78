/- alive and join. -/
import Derived.Test.YtojpdokkenghbaaDoorRef
import Derived.Lib.SlBytesConst
namespace Go.Proofs.YtojpdokkenghbaaDoor
open Go.RowKit Go.ChangeShapes Go.WideShapes Go.ChangeAt Go.Deep

theorem tab_alloc {w : World} (h : Tab w) (o : Obj) : Tab (w.alloc o) := h.below ((Below.refl _ _).alloc (Nat.le_refl _) o)

/-- A row of one text that was just laid. -/
theorem reads_row1 (w : World) (t : Txt) : Reads (w.alloc (.cells #[t.val] 24)) (some ⟨w.heap.size, 0, none⟩) (sV [t]) := reads_new w (sV [t]) 24

def nine : List Nat := [49, 50, 51, 52, 53, 54, 55, 56, 57]

/-- crc.Sum of one list of bytes, the row of one just laid. -/
theorem sum_one (w : World) (g : Nat) (hg : g = w.heap.size) (a : Option Addr) (len cap : Nat) (bs : List Nat) (hl : bs.length = len) (hlen : len ≤ cap) (hcap : cap ≤ maxLen) (hn : a = none → len = 0 ∧ cap = 0) (hB : Byt bs) (hr : Reads w a (bV bs)) (hT : Tab w) :
    Calls Tryd.prog 10 #[.slice (some ⟨g, 0, none⟩) 1 1] (w.alloc (.cells #[.slice a len cap] 24)) fun e w' => e = .returned (.int .i64 (crcSum bs : Nat)) ∧ w' = w.alloc (.cells #[.slice a len cap] 24) := by
  subst hg
  have hb : Below w.heap.size w (w.alloc (.cells #[.slice a len cap] 24)) := (Below.refl _ _).alloc (Nat.le_refl _) _
  have := sum_any (some ⟨w.heap.size, 0, none⟩) 1 1 [⟨a, len, cap, bs⟩] (w.alloc (.cells #[.slice a len cap] 24)) rfl (by omega) (fun t ht => by
    simp at ht; subst ht
    exact ⟨hl, hB, ⟨hlen, hcap⟩, hn, hr.below hb⟩) (reads_row1 w ⟨a, len, cap, bs⟩) (hT.below hb)
  have e : flat [⟨a, len, cap, bs⟩] = bs := by simp [flat]
  rw [e] at this
  exact this

theorem nine_reads (w : World) : Reads (w.alloc (.cells #[.int .u8 49, .int .u8 50, .int .u8 51, .int .u8 52, .int .u8 53, .int .u8 54, .int .u8 55, .int .u8 56, .int .u8 57] 5 (9, 10))) (some ⟨w.heap.size, 0, none⟩) (bV nine) := by
  refine .inr ⟨_, _, rfl, fun j u hu => ?_⟩
  simp only [World.cell?, World.alloc, Array.getElem?_push_size, Nat.zero_add]
  simpa [bV, nine] using hu
theorem nine_byt : Byt nine := by intro x hx; simp [nine] at hx; omega

set_option maxRecDepth 100000 in
set_option maxHeartbeats 400000 in
theorem alive_any (w : World) (hT : Tab w) : Calls Tryd.prog 8 #[] w fun e w' => e = .returned (.bool true) ∧ Below w.heap.size w w' := by
  have kc := fun (w : World) (C : Array Value) (n c : Nat) => Lib.run_convert_bytes_const (P := Tryd.prog) w 24 5 C n c Tryd.underlying24 Tryd.underlying5
  have HC := hide (show crcSum nine = 3421780262 from crc_example)
  go_enter Tryd.func8, Tryd.ntmps8
  go_wp2_with (go_at_call 10; go_must (refine (sum_one _ _ (by simp) _ 9 9 nine rfl (by omega) (by unfold maxLen; omega) (fun h => by cases h) nine_byt (nine_reads w) (tab_alloc hT _)).mono ?_; rintro e w1 ⟨rfl, rfl⟩; rw [HC.out]))
  go_ret
  exact ⟨rfl, (((Below.refl _ _).alloc (Nat.le_refl _) _).alloc (by simp) _)⟩

set_option maxRecDepth 100000 in
set_option maxHeartbeats 400000 in
/-- join: all bytes one behind the other, or false. -/
theorem join_any (a : Option Addr) (len cap : Nat) (ts : List Txt) (w : World) (hl : ts.length = len) (hok : ∀ t ∈ ts, t.ok w) (hr : Reads w a (sV ts)) :
    Calls Tryd.prog 9 #[.slice a len cap] w fun e w' => ∃ v ok, e = .returned (.tuple #[v, .bool ok]) ∧ Below w.heap.size w w' ∧
      (ok = true → len ≤ 50 ∧ (flat ts).length ≤ 100000 ∧ w'.ownsRow w.heap.size 5 1 v (flat ts).length (bV (flat ts))) := by
  by_cases h50 : len ≤ 50
  · go_enter Tryd.func9, Tryd.ntmps9
    go_wp2_with fail
    go_loopw [4, 5] (fun v i wr => ∃ k : Nat, k ≤ len ∧ i = .int .i64 (k : Nat) ∧ Hid ((flat (ts.take k)).length ≤ 2000 * k) ∧ wr.ownsRow w.heap.size 5 1 v (flat (ts.take k)).length (bV (flat (ts.take k))) ∧ Below w.heap.size w wr) (fun _ i _ => len - (intOf i).toNat)
    case atStart => exact ⟨0, Nat.zero_le _, rfl, by simp [Hid, flat], World.ownsRow_nil _ _ _ _, Below.refl _ _⟩
    case round =>
      obtain ⟨k, hk, rfl, hfl, ho, hbel⟩ := hrel
      have hsz := hbel.size
      by_cases hlt : k < len
      · have hkn : k < ts.length := by omega
        obtain ⟨b, off, har, hcs⟩ := txts_at hr hkn
        subst har
        have hcw := hcs.out k hkn
        have hcell : wr.cell? ⟨b, off + k, none⟩ = some (.slice ts[k].a ts[k].len ts[k].cap) := by rw [hbel.cell (cell_some_lt hcw)]; exact hcw
        have HS := hide (flat_snoc ts k hkn)
        have ht := hok ts[k] (List.getElem_mem _)
        obtain ⟨t, hx⟩ : ∃ t, t = ts[k] := ⟨_, rfl⟩
        rw [← hx] at hcell ht HS
        clear hx hcs hcw
        obtain ⟨t1, t2, t3, t4, t5⟩ := ht
        obtain ⟨ta, tl, tc, tb⟩ := t
        simp only at hcell t1 t2 t3 t4 t5 HS
        have hrt := hide (t5.below hbel)
        have ht1 := hide t1
        clear t1 t2 t3 t5
        by_cases h2 : tl ≤ 2000
        · have HX := hide (show (flat (ts.take k)).length + tl ≤ 140737488355328 by have := hfl.out; omega)
          have HY := hide (show (flat (ts.take k)).length + tl ≤ 2000 * (k + 1) by have := hfl.out; omega)
          go_wp2_with (at_builtin; go_must (refine append_bytes rfl (.tmp 21) (.tmp 25) rfl w.heap.size u4 _ (flat (ts.take k)) rfl ho ta tl tc tb rfl t4 ht1.out hrt.out HX.out hsz ?_; intro v1 w1 ho1 hg1 _))
          have hB1 : Below w.heap.size w w1 := hbel.grown hg1 hsz (fun q hq => (ho.lt q hq).1)
          go_roundw
          case rel => exact ⟨k + 1, by omega, by go_num, by rw [HS.out, List.length_append, ht1.out]; exact HY, by rw [HS.out, List.length_append, ht1.out]; exact ho1, hB1⟩
          case measure => simp [intOf]; omega
        · go_wp2
          go_ret2
          exact ⟨_, _, rfl, hbel, fun h => by cases h⟩
      · have e : ts.take k = ts := List.take_of_length_le (by omega)
        rw [e] at ho hfl
        go_wp2
        go_ret2
        exact ⟨_, _, rfl, hbel, fun _ => ⟨h50, by have := hfl.out; omega, ho⟩⟩
  · go_enter Tryd.func9, Tryd.ntmps9
    go_wp2
    go_ret2
    exact ⟨_, _, rfl, Below.refl _ _, fun h => by cases h⟩

end Go.Proofs.YtojpdokkenghbaaDoor
