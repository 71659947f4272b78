/- frame.Read, whatever the bytes; SameFrame. -/
import Derived.Test.YtpieagcijfkpnaaDoorFrS
namespace Go.Proofs.YtpieagcijfkpnaaDoor
open Go.RowKit Go.ChangeShapes Go.WideShapes Go.ChangeAt Go.Deep

/-- What frame.Read answers. -/
theorem read_any (a : Option Addr) (len cap : Nat) (bs : List Nat) (w : World) (hl : bs.length = len) (hlen : len ≤ 1000000) (hlc : len ≤ cap) (hcm : cap ≤ maxLen) (hB : Byt bs) (hr : Reads w a (bV bs)) (hT : Tab w) :
    Calls Tryd.prog 12 #[.slice a len cap] w (ReadPost bs w) := by
  by_cases h5 : len < 5
  · exact read_lt a len cap bs w hl h5
  · by_cases hm : bs.head? = some 70
    · by_cases hs : bs.drop (bs.length - 4) = tail4 (crcSum (bs.take (bs.length - 4)))
      · exact read_parse a len cap bs w hl (by omega) hlen hlc hcm hB hr hm hT hs
      · exact read_sum a len cap bs w hl (by omega) hlen hlc hcm hB hr hm hT hs
    · exact read_mark a len cap bs w hl (by omega) hlen hr hm

set_option maxRecDepth 100000 in
set_option maxHeartbeats 1000000 in
/-- Two frames that are one are told so. -/
theorem same_yes (f : Fr) (a b : Option Addr) (l c l' c' : Nat) (w : World) (hl : f.load.length = l) (hl' : f.load.length = l') (hr : Reads w a (bV f.load)) (hr' : Reads w b (bV f.load)) :
    Calls Tryd.prog 13 #[f.val a l c, f.val b l' c'] w fun e w' => e = .returned (.bool true) ∧ Below w.heap.size w w' := by
  obtain ⟨f1, f2, f3, f4, f5, ld⟩ := f
  simp only [Fr.val]
  simp only at hl hl' hr hr'
  have hb : ∀ o o2 : Obj, Below w.heap.size w ((w.alloc o).alloc o2) := fun o o2 => ((Below.refl _ _).alloc (Nat.le_refl _) _).alloc (by simp) _
  have h1 := fun o o2 => run_str (S := bstr ld) rfl hl (hr.below (hb o o2)) c
  have h2 := fun o o2 => run_str (S := bstr ld) rfl hl' (hr'.below (hb o o2)) c'
  generalize bstr ld = S1 at h1 h2
  have HB := hide hb
  clear hb hr hr' hl hl'
  go_enter Tryd.func13, Tryd.ntmps13
  go_wp2
  go_ret
  exact ⟨rfl, HB.out _ _⟩
end Go.Proofs.YtpieagcijfkpnaaDoor
