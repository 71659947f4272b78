/- Bytes held against bytes; bytes with their sum behind. -/
import Derived.Test.YtpieagcijfkpnaaDoorFrB
namespace Go.Proofs.YtpieagcijfkpnaaDoor
open Go.RowKit Go.ChangeShapes Go.WideShapes Go.ChangeAt Go.Deep

set_option maxRecDepth 100000 in
set_option maxHeartbeats 400000 in
/-- bytes.Equal. -/
theorem equal_any (a b : Option Addr) (la ca lb cb : Nat) (xs ys : List Nat) (w : World) (hx : xs.length = la) (hy : ys.length = lb) (hBx : Byt xs) (hBy : Byt ys) (hrx : Reads w a (bV xs)) (hry : Reads w b (bV ys)) :
    Calls Tryd.prog 24 #[.slice a la ca, .slice b lb cb] w fun e w' => e = .returned (.bool (decide (xs = ys))) ∧ w' = w := by
  have h1 := run_str (S := bstr xs) rfl hx hrx ca
  have h2 := run_str (S := bstr ys) rfl hy hry cb
  have he := bstr_eq hBx hBy
  generalize bstr xs = S1 at h1 he
  generalize bstr ys = S2 at h2 he
  generalize decide (xs = ys) = D at he ⊢
  have HE := hide he
  clear he hrx hry hx hy
  go_enter Tryd.func24, Tryd.ntmps24
  go_wp2
  go_ret
  exact ⟨by rw [← HE.out]; rfl, rfl⟩

theorem tail_bits (s : Nat) : bits .and .i64 (s : Int) 255 = ((s % 256 : Nat) : Int) := by
  have h := i64_mask 8 (by decide) (s : Int)
  have h2 : bits .and .i64 (s : Int) 255 = (s : Int) % 256 := h
  rw [h2]; omega

set_option maxRecDepth 100000 in
set_option maxHeartbeats 1000000 in
/-- gleanerref1.Sealed. -/
theorem sealed_any (a : Option Addr) (len cap : Nat) (bs : List Nat) (w : World) (hl : bs.length = len) (hlen : len ≤ 1000000000) (hn : a = none → len = 0 ∧ cap = 0) (hB : Byt bs) (hr : Reads w a (bV bs)) :
    Calls Tryd.prog 22 #[.slice a len cap] w fun e w' => ∃ v, e = .returned v ∧ v ≠ .slice none 0 0 ∧ w'.ownsRow w.heap.size 5 1 v (sealL bs).length (bV (sealL bs)) ∧ Below w.heap.size w w' := by
  have C := rsum_any a len cap bs w hl (by omega) hB hr
  have hs : crcSum bs < 4294967296 := by rw [crcSum_eq]; exact xor_all_lt _ (crcF_lt _ _ (by omega) hB)
  have HS := hide (show sealL bs = bs ++ tail4 (crcSum bs) from rfl)
  generalize crcSum bs = s at C hs HS
  have C' := hide C
  clear C
  have hcast : #[Value.int IntKind.u8 ((s : Int) % 256), Value.int IntKind.u8 ((s : Int) / 256 % 256), Value.int IntKind.u8 ((s : Int) / 65536 % 256), Value.int IntKind.u8 ((s : Int) / 16777216 % 256)] = (bV (tail4 s)).toArray := by
    simp [bV, tail4]
  have HC := hide hcast
  clear hcast
  have HR4 := hide (fun (W : World) (g : Nat) (hg : g = W.heap.size) => (show Reads (W.alloc (.cells #[Value.int IntKind.u8 ((s : Int) % 256), Value.int IntKind.u8 ((s : Int) / 256 % 256), Value.int IntKind.u8 ((s : Int) / 65536 % 256), Value.int IntKind.u8 ((s : Int) / 16777216 % 256)] 5)) (some ⟨g, 0, none⟩) (bV (tail4 s)) from by
    subst hg; rw [HC.out]; exact reads_new W _ 5))
  have hm0 := tail_bits s
  have hm1 := tail_bits (s / 256)
  have hm2 := tail_bits (s / 65536)
  have hm3 := tail_bits (s / 16777216)
  rw [show ((s / 256 : Nat) : Int) = (s : Int) / 256 from by omega] at hm1
  rw [show ((s / 65536 : Nat) : Int) = (s : Int) / 65536 from by omega] at hm2
  rw [show ((s / 16777216 : Nat) : Int) = (s : Int) / 16777216 from by omega] at hm3
  go_enter Tryd.func22, Tryd.ntmps22
  go_wp2_with (first
    | (go_at_call 36; go_must (with_reducible refine C'.out.mono ?_; rintro e w1 ⟨rfl, rfl⟩))
    | (at_builtin; first
        | (refine append_bytes rfl (.const (.slice none 0 0)) (.tmp 6) rfl w1.heap.size (.slice none 0 0) 0 [] rfl (World.ownsRow_nil _ _ _ _) a len cap bs rfl hn hl hr (by omega) (Nat.le_refl _) ?_; intro v2 w2 ho2 hg2 hnn; have HNN := hide hnn; clear hnn)
        | (go_must (refine append_bytes rfl (.tmp 7) (.tmp 23) rfl w1.heap.size v2 _ _ rfl (ho2.alloc _) (some ⟨w2.heap.size, 0, none⟩) 4 4 (tail4 s) rfl (fun h => by cases h) rfl (HR4.out _ _ rfl) (by omega) (by have := hg2.size; simp; omega) ?_; intro v3 w3 ho3 hg3 hn3; have HN3 := hide hn3; clear hn3))))
  have hb2 : Below w1.heap.size w1 w2 := below_of hg2
  have hb3 : Below w1.heap.size w1 w3 := (hb2.alloc hb2.size _).grown hg3 (by simp; exact Nat.le_succ_of_le hb2.size) (fun k hk => (ho2.lt k hk).1)
  go_ret
  refine ⟨_, rfl, fun h => by have := (HN3.out.1 h).2; omega, ?_, hb3⟩
  have e : (sealL bs).length = 0 + len + 4 := by rw [seal_len, hl]; omega
  rw [e, HS.out]
  exact ho3
end Go.Proofs.YtpieagcijfkpnaaDoor
