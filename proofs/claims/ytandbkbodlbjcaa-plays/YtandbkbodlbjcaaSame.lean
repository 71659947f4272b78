/- The document's own Sort, and whether two lists of names are one. -/
import Derived.Test.YtandbkbodlbjcaaRise
namespace Go.Proofs.Ytandbkbodlbjcaa
open Go.RowKit Go.ChangeShapes Go.WideShapes Go.ChangeAt Go.Deep Go.Sort

theorem putR_len (x : ByteArray) : ∀ L : List ByteArray, (putR x L).length ≤ L.length + 1
  | [] => by simp [putR]
  | a :: r => by
    unfold putR
    have := putR_len x r
    split
    · simp; omega
    · split <;> simp
theorem fold_len (L : List ByteArray) : ∀ acc : List ByteArray, (L.foldl putB acc).length ≤ acc.length + L.length := by
  induction L with
  | nil => intro acc; simp
  | cons a r ih =>
    intro acc
    have h1 := ih (putB acc a)
    have h2 := putR_len a acc
    rw [← put_is] at h2
    simp only [List.foldl_cons, List.length_cons]
    omega

set_option maxRecDepth 100000 in
set_option maxHeartbeats 1000000 in
theorem same_any (x y : List ByteArray) (a1 a2 : Option Addr) (c1 c2 : Nat) (w : World) (r1 : Reads w a1 (nV x)) (r2 : Reads w a2 (nV y)) (h1 : x.length ≤ 1000000) (_h2 : y.length ≤ 1000000) :
    Calls Try.prog 20 #[.slice a1 x.length c1, .slice a2 y.length c2] w fun e w' => e = .returned (.bool (decide (x = y))) ∧ Below w.heap.size w w' := by
  have R1 := hide r1
  have R2 := hide r2
  clear r1 r2
  by_cases hl : x.length = y.length
  · obtain ⟨n, hn⟩ : ∃ n, x.length = n := ⟨_, rfl⟩
    have hn2 : y.length = n := by omega
    rw [hn2, hn]
    have HN := hide hn
    have HN2 := hide hn2
    have hn3 : n ≤ 1000000 := by omega
    clear hl h1 _h2 hn hn2
    have hne : ((n : Int) != (n : Int)) = false := by simp
    go_enter Try.func20, Try.ntmps20
    go_wp2_with fail
    go_loopw [5] (fun i wr => Below w.heap.size w wr ∧ ∃ k : Nat, k ≤ n ∧ i = .int .i64 (k : Nat) ∧ Hid (x.take k = y.take k)) (fun i _ => n - (intOf i).toNat)
    case atStart => exact ⟨Below.refl _ _, 0, Nat.zero_le _, rfl, by refine Lib.hid ?_; simp⟩
    case round =>
      obtain ⟨hbw, k, hk, rfl, ht⟩ := hrel
      have HB := hide hbw
      by_cases hlt : k < n
      · have hlt' : (k : Int) < (n : Int) := by omega
        obtain ⟨p, hp⟩ : ∃ p, x[k]? = some p := ⟨x[k]'(by have := HN.out; omega), List.getElem?_eq_getElem _⟩
        obtain ⟨q, hq⟩ : ∃ q, y[k]? = some q := ⟨y[k]'(by have := HN2.out; omega), List.getElem?_eq_getElem _⟩
        obtain ⟨b1, o1, rfl, hc1⟩ := reads_nV (k := k) (x := p) (R1.out.below hbw) hp
        obtain ⟨b2, o2, rfl, hc2⟩ := reads_nV (k := k) (x := q) (R2.out.below hbw) hq
        have d1 := hc1.out k p hp
        have d2 := hc2.out k q hq
        have HP := hide hp
        have HQ := hide hq
        clear hc1 hc2 hp hq hbw
        by_cases hu : p = q
        · have HT := hide (show x.take (k + 1) = y.take (k + 1) by rw [List.take_add_one, List.take_add_one, HP.out, HQ.out, ht.out, hu])
          subst hu
          have hd : (p.toList != p.toList) = false := by simp
          go_wp2_with fail
          go_big_quiet (fail)
          go_wp2_with fail
          go_roundw
          case rel => exact ⟨below_drewN HB.out _, k + 1, by omega, by go_num, HT⟩
          case measure => simp [intOf]; omega
        · have hd : (p.toList == q.toList) = false := by
            rw [beq_eq_false_iff_ne, ByteArray.toList_eq, ByteArray.toList_eq]
            exact fun h => hu (bytes_inj h)
          have HX := hide (show ¬ x = y from fun h => hu (by
            have := HP.out
            rw [h, HQ.out] at this
            exact (Option.some.inj this).symm))
          clear hu
          go_wp2_with fail
          go_big_quiet (fail)
          go_wp2_with fail
          go_ret
          exact ⟨ret_b (by simp [HX.out]), below_drewN HB.out _⟩
      · have hlt' : ¬ (k : Int) < (n : Int) := by omega
        have HX := hide (show x = y by
          have := ht.out
          rwa [List.take_of_length_le (by have := HN.out; omega), List.take_of_length_le (by have := HN2.out; omega)] at this)
        clear hbw
        go_wp2_with fail
        go_ret
        exact ⟨ret_b (by simp [HX.out]), HB.out⟩
  · have hne : ((x.length : Int) != (y.length : Int)) = true := by rw [bne_iff_ne]; omega
    have HX := hide (show ¬ x = y from fun h => hl (by rw [h]))
    clear hl
    go_enter Try.func20, Try.ntmps20
    go_wp2_with fail
    go_ret
    exact ⟨ret_b (by simp [HX.out]), Below.refl _ _⟩
end Go.Proofs.Ytandbkbodlbjcaa
