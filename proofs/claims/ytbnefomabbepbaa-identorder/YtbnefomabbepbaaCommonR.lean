/- Common: the document's own. -/
import Derived.Test.YtbnefomabbepbaaCommon
import Derived.BigQuiet
namespace Go.Proofs.Ytbnefomabbepbaa
open Go.RowKit Go.ChangeShapes Go.WideShapes Go.ChangeAt Go.Deep

set_option maxRecDepth 100000 in
set_option maxHeartbeats 4000000 in
theorem refCommon_any (L : List ByteArray) (ad : Option Addr) (cap : Nat) (w : World) (hr : Reads w ad (nV L)) (hcap : L.length ≤ cap) (hcm : cap ≤ maxLen) (hsz : ∀ s ∈ L, s.size ≤ 1000000000) :
    Calls Try.prog 22 #[.slice ad L.length cap] w fun e w' => e = .returned (.string (commonB L)) ∧ Below w.heap.size w w' := by
  unfold maxLen at hcm
  cases L with
  | nil =>
    go_enter Try.func22, Try.ntmps22
    go_wp2
    go_ret
    exact ⟨rfl, Below.refl _ _⟩
  | cons c r =>
    obtain ⟨b, off, rfl, hcell⟩ := reads_nV (k := 0) (x := c) hr rfl
    have c0 : w.cell? ⟨b, off, none⟩ = some (.string c) := by simpa using hcell.out 0 c rfl
    have HSZ := hide hsz
    have hcz := hsz c (by simp)
    have HF := hide (fun l => fold_size c l)
    obtain ⟨n, hn⟩ : ∃ n, r.length + 1 = n := ⟨_, rfl⟩
    show Calls Try.prog 22 #[.slice (some ⟨b, off, none⟩) (r.length + 1) cap] w fun e w' => e = .returned (.string (foldB c r)) ∧ Below w.heap.size w w'
    have hcap' : r.length + 1 ≤ cap := by simpa using hcap
    rw [hn] at hcap' ⊢
    have HNN := hide hn
    have hn1 : 1 ≤ n := by omega
    clear hn
    have hz0 : ((n : Int) == 0) = false := by rw [beq_eq_false_iff_ne]; omega
    clear hsz hr hcap
    go_enter Try.func22, Try.ntmps22
    go_wp2_with fail
    go_loopw [4, 3] (fun i cm wr => Below w.heap.size w wr ∧ ∃ k : Nat, 1 ≤ k ∧ k ≤ n ∧ i = .int .i64 (k : Nat) ∧ cm = .string (foldB c (r.take (k - 1)))) (fun i _ _ => n - (intOf i).toNat)
    case atStart => exact ⟨Below.refl _ _, 1, by omega, by omega, by rfl, by rfl⟩
    case round =>
      obtain ⟨hbw, k, hk1, hk, rfl, rfl⟩ := hrel
      by_cases hlt : k < n
      · obtain ⟨x, hx⟩ : ∃ x, r[k - 1]? = some x := ⟨r[k - 1]'(by have := HNN.out; omega), List.getElem?_eq_getElem _⟩
        have hlt' : (k : Int) < (n : Int) := by omega
        have ck : wr.cell? ⟨b, off + k, none⟩ = some (.string x) := keep_cell (hcell.out k x (by rw [show k = (k - 1) + 1 by omega]; simpa using hx)) hbw
        have hxz := HSZ.out x (by simp [List.mem_of_getElem? hx])
        have hcz2 := HF.out (r.take (k - 1))
        have HN := hide (fold_next (c := c) hx)
        rw [show k - 1 + 1 = (k + 1) - 1 by omega] at HN
        generalize foldB c (r.take (k - 1)) = q at HN hcz2 ⊢
        have hqz : q.size ≤ 1000000000 := by omega
        have HB := hide hbw
        clear hx hbw c0
        go_wp2_with fail
        go_loopw [5] (fun i wq => Below wr.heap.size wr wq ∧ ∃ m : Nat, m ≤ q.size ∧ m ≤ x.size ∧ i = .int .i64 (m : Nat) ∧ Hid (∀ j, j < m → q.data.toList[j]? = x.data.toList[j]?)) (fun i _ => q.size - (intOf i).toNat)
        case atStart => exact ⟨Below.refl _ _, 0, by omega, by omega, rfl, fun j hj => by omega⟩
        case round =>
          obtain ⟨hbq, m, hm1, hm2, rfl, hh⟩ := hrel
          have HBQ := hide hbq
          have cq := keep_cell ck hbq
          by_cases h1 : m < q.size
          · have h1' : (m : Int) < (q.size : Int) := by omega
            by_cases h2 : m < x.size
            · have h2' : (m : Int) < (x.size : Int) := by omega
              obtain ⟨y, hy⟩ := at_some (s := q) (k := m) h1
              obtain ⟨z, hz⟩ := at_some (s := x) (k := m) h2
              have iy := fun w => index_str (kd := .i64) (t := 22) Try.underlying22 (s := q) (j := m) hy w
              have iz := fun w => index_str (kd := .i64) (t := 22) Try.underlying22 (s := x) (j := m) hz w
              have HY := hide hy
              have HZ := hide hz
              by_cases hyz : y = z
              · have HM := hide (show ∀ j, j < m + 1 → q.data.toList[j]? = x.data.toList[j]? from fun j hj => by
                  rcases Nat.lt_or_ge j m with h | h
                  · exact hh.out j h
                  · have : j = m := by omega
                    subst this
                    rw [HY.out, HZ.out, hyz])
                subst hyz
                clear hy hz hbq
                go_wp2_with fail
                go_big_quiet (fail)
                go_wp2_with fail
                go_roundw
                case rel => exact ⟨below_drewN HBQ.out _, m + 1, by omega, by omega, by go_num, HM⟩
                case measure => simp [intOf]; omega
              · have hne : ((y.toNat : Int) == (z.toNat : Int)) = false := by
                  rw [beq_eq_false_iff_ne]
                  intro h
                  exact hyz (UInt8.toNat_inj.1 (by omega))
                have HR := hide (show alikeB q x = m from alike_is _ _ m (by rw [← Lib.size_eq]; omega) (by rw [← Lib.size_eq]; omega) hh.out (.inr (.inr (by rw [HY.out, HZ.out]; intro h; exact hyz (Option.some.inj h)))))
                clear hy hz hbq hyz
                go_wp2_with fail
                go_big_quiet (fail)
                go_wp2_with fail
                go_roundw
                case rel => exact ⟨chain HB.out (below_drewN HBQ.out _), k + 1, by omega, by omega, by go_num, by rw [HN.out, HR.out]⟩
                case measure => simp [intOf]; omega
            · have h2' : ¬ (m : Int) < (x.size : Int) := by omega
              have HR := hide (show alikeB q x = m from alike_is _ _ m (by rw [← Lib.size_eq]; omega) (by rw [← Lib.size_eq]; omega) hh.out (.inr (.inl (by rw [← Lib.size_eq]; omega))))
              clear hbq
              go_wp2_with fail
              go_big_quiet (fail)
              go_wp2_with fail
              go_roundw
              case rel => exact ⟨chain HB.out (below_drewN HBQ.out _), k + 1, by omega, by omega, by go_num, by rw [HN.out, HR.out]⟩
              case measure => simp [intOf]; omega
          · have h1' : ¬ (m : Int) < (q.size : Int) := by omega
            have HR := hide (show alikeB q x = m from alike_is _ _ m (by rw [← Lib.size_eq]; omega) (by rw [← Lib.size_eq]; omega) hh.out (.inl (by rw [← Lib.size_eq]; omega)))
            clear hbq
            go_wp2_with fail
            go_big_quiet (fail)
            go_wp2_with fail
            go_roundw
            case rel => exact ⟨chain HB.out (below_drewN HBQ.out _), k + 1, by omega, by omega, by go_num, by rw [HN.out, HR.out]⟩
            case measure => simp [intOf]; omega
      · have hke : r.take (k - 1) = r := List.take_of_length_le (by have := HNN.out; omega)
        rw [hke]
        have hlt' : ¬ (k : Int) < (n : Int) := by omega
        clear c0 hke
        go_wp2_with fail
        go_ret
        exact ⟨rfl, hbw⟩
end Go.Proofs.Ytbnefomabbepbaa
