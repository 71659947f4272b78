/- The sum's four bytes; the document's own small functions; bytes held against bytes. -/
import Derived.Test.YtpieagcijfkpnaaDoorFrP
import Derived.Test.YtpieagcijfkpnaaDoorMore
import Derived.Test.YtpieagcijfkpnaaDoorRef
import Derived.BigQuiet
namespace Go.Proofs.YtpieagcijfkpnaaDoor
open Go.RowKit Go.ChangeShapes Go.WideShapes Go.ChangeAt Go.Deep

theorem bstr_nums {l : List Nat} (h : Byt l) : (bstr l).toList.map (fun (x : UInt8) => x.toNat) = l := by
  rw [ByteArray.toList_eq, bstr, strOfNums_data, List.map_map, List.map_map]
  conv => rhs; rw [← List.map_id l]
  apply List.map_congr_left
  intro x hx
  have := h x hx
  simp
  omega
theorem bstr_eq {a b : List Nat} (ha : Byt a) (hb : Byt b) : ((bstr a).toList == (bstr b).toList) = decide (a = b) := by
  by_cases h : a = b
  · subst h; simp
  · have : (bstr a).toList ≠ (bstr b).toList := fun e => h (by rw [← bstr_nums ha, ← bstr_nums hb, e])
    simp [h, this]

theorem own_cell {w : World} {B g n cap j : Nat} {zs : List Nat} (ho : w.ownsRow B 5 1 (.slice (some ⟨g, 0, none⟩) n cap) n (bV zs)) (hj : j < zs.length) :
    w.cell? ⟨g, j, none⟩ = some (.int .u8 (zs[j] : Nat)) := by
  have hl : zs.length = n := by have := ho.1; rw [bV_length] at this; omega
  rw [ho.cellAt j (by omega)]
  simp [bV, hj]

/-- A byte of one's own row is put. -/
theorem own_put {w : World} {B g n cap : Nat} {zs : List Nat} (ho : w.ownsRow B 5 1 (.slice (some ⟨g, 0, none⟩) n cap) n (bV zs)) (j y : Nat) :
    (w.setCell ⟨g, j, none⟩ (.int .u8 (y : Nat))).ownsRow B 5 1 (.slice (some ⟨g, 0, none⟩) n cap) n (bV (zs.set j y)) ∧ w.grownBy (w.setCell ⟨g, j, none⟩ (.int .u8 (y : Nat))) (some g) := by
  have h := ho.stored j (.int .u8 (y : Nat))
  refine ⟨?_, h.2⟩
  have e : (bV zs).set j (.int .u8 (y : Nat)) = bV (zs.set j y) := by simp [bV, List.map_set]
  rw [← e]; exact h.1

theorem made_zeros (n : Nat) : (madeCells (Value.int IntKind.u8 0).cells (n * 1)).toList = bV (List.replicate n 0) := by
  simp [madeCells, bV, Value.cells, Nat.mod_one, List.map_const']

/-- The first k bytes of the sum are there, the others nought. -/
def tailTo (s k : Nat) : List Nat := (tail4 s).take k ++ List.replicate (4 - k) 0

set_option maxRecDepth 100000 in
set_option maxHeartbeats 400000 in
theorem lnum_any (n : Int) (w : World) : Calls Tryd.prog 11 #[.int .i64 n] w fun e w' => e = .returned (.int .i64 n) ∧ w' = w := by
  go_enter Tryd.func11, Tryd.ntmps11
  go_wp2
  go_ret
  exact ⟨rfl, rfl⟩

set_option maxRecDepth 100000 in
set_option maxHeartbeats 400000 in
theorem node_any (n : Int) (w : World) : Calls Tryd.prog 19 #[.int .i64 n] w fun e w' => e = .returned (.bool (okN 15 n)) ∧ w' = w := by
  by_cases h0 : 0 ≤ n
  · by_cases h1 : n < 16
    · have HO := hide (show okN 15 n = true by simp [okN]; omega)
      go_enter Tryd.func19, Tryd.ntmps19
      go_wp2
      go_ret
      exact ⟨by rw [HO.out]; rfl, rfl⟩
    · have HO := hide (show okN 15 n = false by simp [okN]; omega)
      go_enter Tryd.func19, Tryd.ntmps19
      go_wp2
      go_ret
      exact ⟨by rw [HO.out]; rfl, rfl⟩
  · have HO := hide (show okN 15 n = false by simp [okN]; omega)
    go_enter Tryd.func19, Tryd.ntmps19
    go_wp2
    go_ret
    exact ⟨by rw [HO.out]; rfl, rfl⟩

set_option maxRecDepth 100000 in
set_option maxHeartbeats 400000 in
theorem rnum_any (n : Int) (w : World) : Calls Tryd.prog 20 #[.int .i64 n] w fun e w' => e = .returned (.bool (okN 2147483647 n)) ∧ w' = w := by
  by_cases h0 : 0 ≤ n
  · by_cases h1 : n ≤ 2147483647
    · have HO := hide (show okN 2147483647 n = true by simp [okN]; omega)
      go_enter Tryd.func20, Tryd.ntmps20
      go_wp2
      go_ret
      exact ⟨by rw [HO.out]; rfl, rfl⟩
    · have HO := hide (show okN 2147483647 n = false by simp [okN]; omega)
      go_enter Tryd.func20, Tryd.ntmps20
      go_wp2
      go_ret
      exact ⟨by rw [HO.out]; rfl, rfl⟩
  · have HO := hide (show okN 2147483647 n = false by simp [okN]; omega)
    go_enter Tryd.func20, Tryd.ntmps20
    go_wp2
    go_ret
    exact ⟨by rw [HO.out]; rfl, rfl⟩

set_option maxRecDepth 100000 in
set_option maxHeartbeats 400000 in
/-- crc.Tail of one list. -/
theorem tail_any (W : World) (g : Nat) (hg : g = W.heap.size) (a : Option Addr) (len cap : Nat) (bs : List Nat) (hl : bs.length = len) (hlen : len ≤ cap) (hcap : cap ≤ maxLen) (hn : a = none → len = 0 ∧ cap = 0) (hB : Byt bs) (hr : Reads W a (bV bs)) (hT : Tab W) :
    Calls Tryd.prog 18 #[.slice (some ⟨g, 0, none⟩) 1 1] (W.alloc (.cells #[.slice a len cap] 22)) fun e w' => ∃ q, e = .returned (.slice (some ⟨q, 0, none⟩) 4 4) ∧ W.heap.size < q ∧ w'.ownsRow W.heap.size 5 1 (.slice (some ⟨q, 0, none⟩) 4 4) 4 (bV (tail4 (crcSum bs))) ∧ Below W.heap.size W w' := by
  subst hg
  obtain ⟨i0, hi, hz0, hz1, hz2⟩ := info_parts Tryd.info5
  have hb : Below W.heap.size W (W.alloc (.cells #[.slice a len cap] 22)) := (Below.refl _ _).alloc (Nat.le_refl _) _
  have C := sum_any (some ⟨W.heap.size, 0, none⟩) 1 1 [⟨a, len, cap, bs⟩] (W.alloc (.cells #[.slice a len cap] 22)) rfl (by omega) (fun t ht => by
    simp at ht; subst ht
    exact ⟨hl, hB, ⟨hlen, hcap⟩, hn, hr.below hb⟩) (reads_new W (sV [⟨a, len, cap, bs⟩]) 22) (hT.below hb)
  have e : flat [⟨a, len, cap, bs⟩] = bs := by simp [flat]
  rw [e] at C
  have hs : crcSum bs < 4294967296 := by rw [crcSum_eq]; exact xor_all_lt _ (crcF_lt _ _ (by omega) hB)
  generalize crcSum bs = s at C hs
  obtain ⟨V, hV⟩ : ∃ V, V = W.alloc (.cells #[.slice a len cap] 22) := ⟨_, rfl⟩
  have hVs : V.heap.size = W.heap.size + 1 := by rw [hV]; simp
  rw [← hV] at C hb
  rw [← hV]
  have C' := hide C
  have HB0 := hide hb
  have HVs := hide hVs
  clear C hV hVs hb e
  go_enter Tryd.func18, Tryd.ntmps18
  go_wp2_with (first | (go_at_call 35; go_must (with_reducible refine C'.out.mono ?_; rintro e w1 ⟨rfl, rfl⟩)) | (at_make; go_must (refine wpList_make_full _ rfl (.const (.int .i64 4)) (.const (.int .i64 4)) 22 rfl w1.heap.size 5 i0 (.int .u8 0) 1 Tryd.underlying22 hi hz0 hz1 .i64 .i64 _ _ 4 rfl rfl rfl rfl (by rw [hz2]; omega) (by unfold maxLen; omega) (Nat.le_refl _) ?_; intro w2 ho2 hg2)))
  have hb2 : Below W.heap.size W w2 := HB0.out.grown hg2 (by have := HVs.out; omega) (fun k hk => by cases hk)
  have ho2' : w2.ownsRow W.heap.size 5 1 (.slice (some ⟨w1.heap.size, 0, none⟩) 4 4) 4 (bV (tailTo s 0)) := own_mono (by rw [made_zeros] at ho2; exact ho2) (by have := HVs.out; omega)
  clear ho2 hg2
  have hlt := (ho2'.lt w1.heap.size rfl).2
  go_loopw [11] (fun i wr => ∃ k : Nat, k ≤ 4 ∧ i = .int .i64 (k : Nat) ∧ wr.ownsRow W.heap.size 5 1 (.slice (some ⟨w1.heap.size, 0, none⟩) 4 4) 4 (bV (tailTo s k)) ∧ Below W.heap.size W wr) (fun i _ => 4 - (intOf i).toNat)
  case atStart => exact ⟨0, by omega, rfl, ho2', hb2⟩
  case round =>
    obtain ⟨k, hk, rfl, ho, hbel⟩ := hrel
    have hsz := hbel.size
    by_cases h4 : k = 4
    · subst h4
      go_wp2
      go_ret
      exact ⟨_, rfl, by have := HVs.out; omega, ho, hbel⟩
    · obtain ⟨y, hy, hyw⟩ : ∃ y : Nat, tailTo s (k + 1) = (tailTo s k).set k y ∧ y = s / 2 ^ (8 * k) % 256 := by
        refine ⟨_, ?_, rfl⟩
        have : k = 0 ∨ k = 1 ∨ k = 2 ∨ k = 3 := by omega
        rcases this with rfl | rfl | rfl | rfl <;> simp [tailTo, tail4, List.replicate]
      have hput := own_put ho k y
      have hfr := ho.frozenAt k
      rw [← hy] at hput
      have HP := hide hput
      have hkn : k < (tailTo s k).length := by simp [tailTo, tail4]; omega
      have hce := own_cell ho hkn
      have HZ := hide (show Below W.heap.size W (wr.setCell ⟨w1.heap.size, k, none⟩ (.int .u8 (y : Nat))) from hbel.grown hput.2 hsz (fun q hq => by cases hq; have := HVs.out; omega))
      clear hput hy
      have hd : k = 0 ∨ k = 1 ∨ k = 2 ∨ k = 3 := by omega
      have hyc : IntKind.u8.wrap ((s : Int) / 2 ^ (8 * k)) = (y : Int) := by
        rw [IntKind.wrap_u8, hyw]
        push_cast
        rfl
      clear hyw
      go_wp2
      go_roundw
      case rel => exact ⟨k + 1, by omega, by go_num, HP.out.1, HZ.out⟩
      case measure => simp [intOf]; omega
end Go.Proofs.YtpieagcijfkpnaaDoor
