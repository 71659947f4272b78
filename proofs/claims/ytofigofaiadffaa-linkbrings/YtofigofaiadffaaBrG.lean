/- LinkBrings: a frame is lost, or comes in. -/
import Derived.Test.YtofigofaiadffaaBrE
namespace Go.Proofs.Ytofigofaiadffaa
namespace linkBrings
open Go.RowKit Go.ChangeShapes Go.WideShapes Go.ChangeAt Go.Deep

set_option linter.unusedSimpArgs false in
set_option maxRecDepth 100000 in
set_option maxHeartbeats 8000000 in
theorem turn_none (w0 w : World) (pb ga gb : Nat) (p : Pr) (wy K : Int) (a : Option Addr) (n c : Nat) (x : List Nat) (h : PairM w0 w pb ga gb p) (hbd : Bd p) (hA : ArgT w0 w ⟨a, n, c, x⟩) (hK : I64 K) (hwy : wy ≠ 0 ∧ wy ≠ 1 ∧ wy ≠ 2 ∧ wy ≠ 3) (hway : p.way.length = 0) :
    Calls Try.prog 24 #[.pointer (some ⟨pb, 0, none⟩), .agg #[.int .i64 wy, .int .i64 K, .slice a n c]] w fun e w' => e = .returned (.bool true) ∧ PairM w0 w' pb ga gb (p) := by
  obtain ⟨hl, hB, hcap, hnil, hr⟩ := hA.1
  simp only at hl hB hcap hnil hr
  have hbn := below_new w (.cells #[.int .i64 wy, .int .i64 K, .slice a n c] 68)
  have hbx := BoxL.new w [.int .i64 wy, .int .i64 K, .slice a n c] 68
  obtain ⟨V, hV⟩ : ∃ V, V = w.alloc (.cells #[.int .i64 wy, .int .i64 K, .slice a n c] 68) := ⟨_, rfl⟩
  have HBX := hide (show BoxL V w.heap.size [.int .i64 wy, .int .i64 K, .slice a n c] by rw [hV]; exact hbx)
  have HTB := hide (show V.heap[w.heap.size]? = some (.cells #[.int .i64 wy, .int .i64 K, .slice a n c] 68) by rw [hV]; show (w.heap.push _)[w.heap.size]? = _; simp)
  rw [← hV] at hbn
  have HBN := hide hbn
  have HV := hide hV
  obtain ⟨D1, D2, aw, cw, l, t0, t1, u0, u1, hS0⟩ := h
  have hpbw := hS0.box.1
  have hS := hS0.below hbn
  have HS := hide hS
  have HA := hide (hA.keep (w' := V) fun k hk => hbn.block k (by have := hS0.bel.size; omega))
  obtain ⟨b0, b1, b2⟩ := HBX.out.c3
  obtain ⟨c0, c1, c2, c3, c4, c5, c6, c7, hfz⟩ := hS.cells
  obtain ⟨kk, hkk⟩ : ∃ kk : Nat, kk = (if K < 0 then -(K + 1) else K).toNat := ⟨_, rfl⟩
  obtain ⟨nw, hnw⟩ : ∃ nw, nw = p.way.length := ⟨_, rfl⟩
  obtain ⟨tm, htm⟩ : ∃ tm, tm = p.now := ⟨_, rfl⟩
  have HNW := hide hnw
  have HTM := hide htm
  rw [← hnw] at c2
  rw [← htm] at c3
  obtain ⟨k2, hk2⟩ : ∃ k2 : Nat, k2 = if 0 < nw then kk % nw else kk := ⟨_, rfl⟩
  have HK2 := hide (show 0 < nw → k2 = kOf K nw from fun h0 => by rw [hk2, if_pos h0, hkk]; rfl)
  have HK2' := hide hk2
  have hnb : nw ≤ 400000 := by rw [hnw]; exact hbd.way
  have htb : tm ≤ 1000000 := by rw [htm]; exact hbd.now
  have HBD := hide hbd
  have HPB := hide hpbw
  have hkkb : kk ≤ 9223372036854775807 := by unfold I64 at hK; rw [hkk]; split <;> omega
  have HKK := hide hkk
  have hKn : K < 0 → -(K + 1) = (kk : Int) := fun h0 => by rw [hkk, if_pos h0]; omega
  have hKp : ¬ K < 0 → K = (kk : Int) := fun h0 => by rw [hkk, if_neg h0]; omega
  have HKn := hide hKn
  have HKp := hide hKp
  unfold I64 at hK
  obtain ⟨hK1, hK2⟩ := hK
  clear hbn hbx hV hS hS0 hkk hnw htm hk2 hr hA hl hB hnil hcap hbd hpbw hKn hKp
  have w0q : (wy == 0) = false := by simpa using hwy.1
  have w1q : (wy == 1) = false := by simpa using hwy.2.1
  have w2q : (wy == 2) = false := by simpa using hwy.2.2.1
  have w3q : (wy == 3) = false := by simpa using hwy.2.2.2
  obtain rfl : nw = 0 := by rw [HNW.out]; exact hway
  clear hwy hway
  go_enter Try.func24, Try.ntmps24
  go_upto_region 1 with fail
  rw [← HV.out]
  go_upto_if 12 with fail
  go_cut [5] from 11 to 16 (fun v wc => V = wc ∧ v = .int .i64 (kk : Int))
  case first =>
    by_cases hneg : K < 0
    · have hq := HKn.out hneg
      go_wp2
      go_meet
      exact ⟨rfl, rfl⟩
    · have HQ := hide (HKp.out hneg)
      go_wp2
      go_meet
      exact ⟨rfl, by rw [← HQ.out]⟩
  case rest =>
    obtain ⟨rfl, rfl⟩ := hcut
    go_upto_if 21 with fail
    go_cut [5] from 16 to 29 (fun v wc => V = wc ∧ v = .int .i64 (k2 : Int))
    case first =>
      by_cases h0 : 0 < 0
      · omega
      · have hm : kk = k2 := by
          have := HK2'.out
          rw [if_neg h0] at this
          exact this.symm
        have HM := hide hm
        clear hm
        go_wp2
        go_meet
        exact ⟨rfl, by rw [HM.out]⟩
    case rest =>
      obtain ⟨rfl, rfl⟩ := hcut
      go_wp2
      go_ret
      exact ⟨rfl, _, _, _, _, _, _, _, _, _, HS.out⟩
end linkBrings
end Go.Proofs.Ytofigofaiadffaa
