/- The document's own table: Put at a new name, has, without. -/
import Derived.Test.YtandbkbodlbjcaaPkd
namespace Go.Proofs.Ytandbkbodlbjcaa
open Go.RowKit Go.ChangeShapes Go.WideShapes Go.ChangeAt Go.Deep Go.Maps Go.Sort

set_option maxRecDepth 100000 in
set_option maxHeartbeats 2000000 in
theorem put_new (L : List ByteArray) (x : ByteArray) (a : Option Addr) (cap : Nat) (w : World) (hr : Reads w a (nV L)) (hcap : L.length ≤ cap) (hnil : a = none → L.length = 0 ∧ cap = 0) (hlen : L.length ≤ 1000) (hx : x ∉ L) :
    Calls Try.prog 42 #[.slice a L.length cap, .string x] w (PutPost L x w.heap.size w) := by
  have HX := hide hx
  have HR := hide hr
  have HNI := hide hnil
  unfold PutPost
  clear hr hnil hx
  go_enter Try.func42, Try.ntmps42
  go_wp2_with fail
  go_loopw [5] (fun i wr => wr = w ∧ ∃ k : Nat, k ≤ L.length ∧ i = .int .i64 (k : Nat) ∧ Hid (∀ j a, j < k → L[j]? = some a → lessB a x = true)) (fun i _ => L.length - (intOf i).toNat)
  case atStart => exact ⟨rfl, 0, by omega, rfl, fun j a hj => by omega⟩
  case round =>
    obtain ⟨rfl, k, hk, rfl, hh⟩ := hrel
    by_cases hlt : k < L.length
    · have hlt' : (k : Int) < (L.length : Int) := by omega
      obtain ⟨y, hy⟩ : ∃ y, L[k]? = some y := ⟨L[k], List.getElem?_eq_getElem hlt⟩
      obtain ⟨b, off, rfl, hc⟩ := reads_nV (k := k) (x := y) HR.out hy
      have c1 := hc.out k y hy
      clear hc
      cases hless : lessB y x with
      | true =>
        have hl : Op.bytesLess y.toList x.toList = true := hless
        have HN := hide (show ∀ j a, j < k + 1 → L[j]? = some a → lessB a x = true from fun j a hj ha => by
          rcases Nat.lt_or_ge j k with h | h
          · exact hh.out j a h ha
          · have : j = k := by omega
            subst this
            rw [hy] at ha
            cases ha
            exact hless)
        clear hh hy hless
        go_wp2_with fail
        go_roundw
        case rel => exact ⟨by trivial, k + 1, by omega, by go_num, HN⟩
        case measure => simp [intOf]; omega
      | false =>
        have hl : Op.bytesLess y.toList x.toList = false := hless
        have hlead : leadN x L = k := lead_is x L k hk hh.out (fun a ha => by rw [hy] at ha; cases ha; exact hless)
        by_cases hyx : y = x
        · exact absurd (List.mem_of_getElem? hy) (by rw [hyx]; exact HX.out)
        · have hq : (y.toList == x.toList) = false := by
            rw [beq_eq_false_iff_ne, ByteArray.toList_eq, ByteArray.toList_eq]
            exact fun h => hyx (bytes_inj h)
          have hput : putB L x = L.take k ++ [x] ++ L.drop k := by
            unfold putB
            rw [hlead, if_neg (by rw [hy]; intro h; exact hyx (Option.some.inj h))]
          clear hy hless hlead hyx
          obtain ⟨a1, c1, ks, hn1, hr1⟩ := slice_from HR.out hk hcap HNI.out
          obtain ⟨a2, c2, kt, hn2, hr2⟩ := slice_to HR.out hk hcap HNI.out
          have HR1 := hide hr1
          have HR2 := hide hr2
          have HP := hide hput
          have hm : (L.drop k).length = L.length - k := by simp
          have hm2 : (L.take k).length = k := by simp; omega
          have HM := hide hm
          have HM2 := hide hm2
          clear hr1 hr2 hput hm hm2 hh
          go_wp2_with (at_builtin; go_must (refine append_names rfl (.const (.slice none 0 0)) (.tmp 36) rfl wr.heap.size (.slice none 0 0) 0 [] rfl (by simpa [nV] using World.ownsRow_nil wr _ 31 1) a1 (L.length - k) c1 (L.drop k) rfl hn1 HM.out HR1.out (by omega) (Nat.le_refl _) ?_; intro v1 w1 ho1 hg1; refine Hid.out ?_))
          refine Lib.hid ?_
          have hb1 : Below wr.heap.size wr w1 := below_of hg1
          have ho1' : w1.ownsRow wr.heap.size 31 1 v1 (L.drop k).length (nV (L.drop k)) := by rw [HM.out]; simpa using ho1
          have HR3 := hide (HR2.out.below hb1)
          have hs1 := hb1.size
          clear ho1 hg1
          go_wp2_with (at_builtin; go_must (refine append_names rfl (.const (.slice none 0 0)) (.tmp 40) rfl w1.heap.size (.slice none 0 0) 0 [] rfl (by simpa [nV] using World.ownsRow_nil w1 _ 31 1) a2 k c2 (L.take k) rfl hn2 HM2.out HR3.out (by omega) (Nat.le_refl _) ?_; intro v2 w2 ho2 hg2; refine Hid.out ?_))
          refine Lib.hid ?_
          have hb2 : Below w1.heap.size w1 w2 := below_of hg2
          have hs2 := hb2.size
          have ho2' : w2.ownsRow w1.heap.size 31 1 v2 k (nV (L.take k)) := by simpa using ho2
          clear ho2 hg2
          go_wp2_with (at_builtin; go_must (refine append_names rfl (.tmp 41) (.tmp 43) rfl w1.heap.size v2 k (L.take k) rfl (ho2'.alloc _) (some ⟨w2.heap.size, 0, none⟩) 1 1 [x] rfl (fun h => by cases h) rfl (reads_new _ [.string x] 31) (by omega) (by simp; omega) ?_; intro v3 w3 ho3 hg3; refine Hid.out ?_))
          refine Lib.hid ?_
          have hb3 : Below w1.heap.size w1 w3 := (hb2.alloc (by omega) _).grown hg3 (by simp; omega) (fun q hq => (ho2'.lt q hq).1)
          have hs3 := hb3.size
          obtain ⟨a4, c4, rfl, hc4, hn4, hr4⟩ := own_formN (own_belowN ho1' hb3)
          have HR4 := hide hr4
          clear hr4 hg3 ho2' ho1'
          have hm4 := HM.out
          rw [hm4] at hn4
          rw [hm4]
          go_wp2_with (at_builtin; go_must (refine append_names rfl (.tmp 44) (.tmp 45) rfl w1.heap.size v3 (k + 1) (L.take k ++ [x]) rfl ho3 a4 (L.length - k) c4 (L.drop k) rfl hn4 HM.out HR4.out (by omega) (by omega) ?_; intro v5 w5 ho5 hg5))
          have hb5 : Below w1.heap.size w1 w5 := hb3.grown hg5 (by omega) (fun q hq => (ho3.lt q hq).1)
          go_ret
          refine ⟨_, rfl, ?_, chain hb1 hb5⟩
          rw [HP.out, show (L.take k ++ [x] ++ L.drop k).length = k + 1 + (L.length - k) by simp; omega]
          exact own_monoN ho5 (by omega)
    · have hlt' : ¬ (k : Int) < (L.length : Int) := by omega
      have hlead : leadN x L = k := lead_is x L k hk hh.out (fun a ha => by rw [List.getElem?_eq_none (by omega)] at ha; cases ha)
      have hput : putB L x = L.take k ++ [x] ++ L.drop k := by
        unfold putB
        rw [hlead, if_neg (by rw [List.getElem?_eq_none (by omega)]; simp)]
      clear hlead
      obtain ⟨a1, c1, ks, hn1, hr1⟩ := slice_from HR.out hk hcap HNI.out
      obtain ⟨a2, c2, kt, hn2, hr2⟩ := slice_to HR.out hk hcap HNI.out
      have HR1 := hide hr1
      have HR2 := hide hr2
      have HP := hide hput
      have hm : (L.drop k).length = L.length - k := by simp
      have hm2 : (L.take k).length = k := by simp; omega
      have HM := hide hm
      have HM2 := hide hm2
      clear hr1 hr2 hput hm hm2 hh
      go_wp2_with (at_builtin; go_must (refine append_names rfl (.const (.slice none 0 0)) (.tmp 36) rfl wr.heap.size (.slice none 0 0) 0 [] rfl (by simpa [nV] using World.ownsRow_nil wr _ 31 1) a1 (L.length - k) c1 (L.drop k) rfl hn1 HM.out HR1.out (by omega) (Nat.le_refl _) ?_; intro v1 w1 ho1 hg1; refine Hid.out ?_))
      refine Lib.hid ?_
      have hb1 : Below wr.heap.size wr w1 := below_of hg1
      have ho1' : w1.ownsRow wr.heap.size 31 1 v1 (L.drop k).length (nV (L.drop k)) := by rw [HM.out]; simpa using ho1
      have HR3 := hide (HR2.out.below hb1)
      have hs1 := hb1.size
      clear ho1 hg1
      go_wp2_with (at_builtin; go_must (refine append_names rfl (.const (.slice none 0 0)) (.tmp 40) rfl w1.heap.size (.slice none 0 0) 0 [] rfl (by simpa [nV] using World.ownsRow_nil w1 _ 31 1) a2 k c2 (L.take k) rfl hn2 HM2.out HR3.out (by omega) (Nat.le_refl _) ?_; intro v2 w2 ho2 hg2; refine Hid.out ?_))
      refine Lib.hid ?_
      have hb2 : Below w1.heap.size w1 w2 := below_of hg2
      have hs2 := hb2.size
      have ho2' : w2.ownsRow w1.heap.size 31 1 v2 k (nV (L.take k)) := by simpa using ho2
      clear ho2 hg2
      go_wp2_with (at_builtin; go_must (refine append_names rfl (.tmp 41) (.tmp 43) rfl w1.heap.size v2 k (L.take k) rfl (ho2'.alloc _) (some ⟨w2.heap.size, 0, none⟩) 1 1 [x] rfl (fun h => by cases h) rfl (reads_new _ [.string x] 31) (by omega) (by simp; omega) ?_; intro v3 w3 ho3 hg3; refine Hid.out ?_))
      refine Lib.hid ?_
      have hb3 : Below w1.heap.size w1 w3 := (hb2.alloc (by omega) _).grown hg3 (by simp; omega) (fun q hq => (ho2'.lt q hq).1)
      have hs3 := hb3.size
      obtain ⟨a4, c4, rfl, hc4, hn4, hr4⟩ := own_formN (own_belowN ho1' hb3)
      have HR4 := hide hr4
      clear hr4 hg3 ho2' ho1'
      have hm4 := HM.out
      rw [hm4] at hn4
      rw [hm4]
      go_wp2_with (at_builtin; go_must (refine append_names rfl (.tmp 44) (.tmp 45) rfl w1.heap.size v3 (k + 1) (L.take k ++ [x]) rfl ho3 a4 (L.length - k) c4 (L.drop k) rfl hn4 HM.out HR4.out (by omega) (by omega) ?_; intro v5 w5 ho5 hg5))
      have hb5 : Below w1.heap.size w1 w5 := hb3.grown hg5 (by omega) (fun q hq => (ho3.lt q hq).1)
      go_ret
      refine ⟨_, rfl, ?_, chain hb1 hb5⟩
      rw [HP.out, show (L.take k ++ [x] ++ L.drop k).length = k + 1 + (L.length - k) by simp; omega]
      exact own_monoN ho5 (by omega)

/-- gleanerref14's has. -/
theorem rhas_any (L : List ByteArray) (x : ByteArray) (a : Option Addr) (c : Nat) (w : World) (hr : Reads w a (nV L)) (hlen : L.length ≤ 1000000) : Calls Try.prog 39 #[.slice a L.length c, .string x] w fun e w' => e = .returned (.bool (inB L x)) ∧ w' = w := by
  have HR := hide hr
  clear hr
  go_enter Try.func39, Try.ntmps39
  go_wp2
  go_loopw [5] (fun i wr => wr = w ∧ ∃ k : Nat, k ≤ L.length ∧ i = .int .i64 (k : Nat) ∧ Hid (∀ j y, j < k → L[j]? = some y → y ≠ x)) (fun i _ => L.length - (intOf i).toNat)
  case atStart => exact ⟨rfl, 0, by omega, rfl, fun j a hj => by omega⟩
  case round =>
    obtain ⟨rfl, k, hk, rfl, hh⟩ := hrel
    by_cases hlt : k < L.length
    · have hlt' : (k : Int) < (L.length : Int) := by omega
      obtain ⟨y, hy⟩ : ∃ y, L[k]? = some y := ⟨L[k], List.getElem?_eq_getElem hlt⟩
      obtain ⟨b, off, rfl, hc⟩ := reads_nV (k := k) (x := y) HR.out hy
      have c1 := hc.out k y hy
      clear hc
      by_cases hyx : y = x
      · subst hyx
        have hq : (y.toList == y.toList) = true := by simp
        have HB := hide (inB_iff.2 (List.mem_of_getElem? hy))
        clear hh hy
        go_wp2
        go_ret
        exact ⟨ret_b HB.out.symm, rfl⟩
      · have hq : (y.toList == x.toList) = false := by
          rw [beq_eq_false_iff_ne, ByteArray.toList_eq, ByteArray.toList_eq]
          exact fun h => hyx (bytes_inj h)
        have HN := hide (show ∀ j z, j < k + 1 → L[j]? = some z → z ≠ x from fun j z hj ha => by
          rcases Nat.lt_or_ge j k with h | h
          · exact hh.out j z h ha
          · have : j = k := by omega
            subst this
            rw [hy] at ha
            cases ha
            exact hyx)
        clear hh hy hyx
        go_wp2
        go_roundw
        case rel => exact ⟨by trivial, k + 1, by omega, by go_num, HN⟩
        case measure => simp [intOf]; omega
    · have hlt' : ¬ (k : Int) < (L.length : Int) := by omega
      have HB := hide (show inB L x = false from inB_no.2 (fun hm => by
        obtain ⟨j, hj⟩ := List.getElem?_of_mem hm
        have : j < L.length := (List.getElem?_eq_some_iff.1 hj).1
        exact hh.out j x (by omega) hj rfl))
      clear hh
      go_wp2
      go_ret
      exact ⟨ret_b HB.out.symm, rfl⟩

theorem del_next (L : List ByteArray) (x : ByteArray) {k : Nat} {y : ByteArray} (hy : L[k]? = some y) : del (L.take (k + 1)) x = if y = x then del (L.take k) x else del (L.take k) x ++ [y] := by
  unfold del
  rw [List.take_add_one, hy]
  by_cases h : y = x
  · simp [h]
  · simp [h]

set_option maxRecDepth 100000 in
set_option maxHeartbeats 2000000 in
/-- gleanerref14's without. -/
theorem without_any (L : List ByteArray) (x : ByteArray) (a : Option Addr) (c : Nat) (w : World) (hr : Reads w a (nV L)) (hlen : L.length ≤ 1000) : Calls Try.prog 44 #[.slice a L.length c, .string x] w fun e w' => ∃ v, e = .returned v ∧ w'.ownsRow w.heap.size 31 1 v (del L x).length (nV (del L x)) ∧ Below w.heap.size w w' := by
  have HR := hide hr
  clear hr
  go_enter Try.func44, Try.ntmps44
  go_wp2
  go_loopw [5, 6] (fun v i wr => ∃ (k : Nat) (a2 : Option Addr) (c2 : Nat), k ≤ L.length ∧ i = .int .i64 (k : Nat) ∧ v = .slice a2 (del (L.take k) x).length c2 ∧ Hid (wr.ownsRow w.heap.size 31 1 (.slice a2 (del (L.take k) x).length c2) (del (L.take k) x).length (nV (del (L.take k) x)) ∧ Below w.heap.size w wr)) (fun _ i _ => L.length - (intOf i).toNat)
  case atStart => exact ⟨0, none, 0, by omega, rfl, rfl, hide ⟨World.ownsRow_nil _ _ _ _, Below.refl _ _⟩⟩
  case round =>
    obtain ⟨k, a2, c2, hk, rfl, rfl, HI⟩ := hrel
    have hdl : (del (L.take k) x).length ≤ 1000 := Nat.le_trans (List.length_filter_le _ _) (by simp; omega)
    by_cases hlt : k < L.length
    · have hlt' : (k : Int) < (L.length : Int) := by omega
      obtain ⟨y, hy⟩ : ∃ y, L[k]? = some y := ⟨L[k], List.getElem?_eq_getElem hlt⟩
      obtain ⟨b, off, rfl, hc⟩ := reads_nV (k := k) (x := y) (HR.out.below HI.out.2) hy
      have c1 := hc.out k y hy
      have HDN := hide (del_next L x hy)
      clear hc hy
      by_cases hyx : y = x
      · subst hyx
        have hq : (y.toList != y.toList) = false := by simp
        have HD := hide (HDN.out.trans (if_pos rfl))
        go_wp2
        go_roundw
        case rel => exact ⟨k + 1, a2, c2, by omega, by go_num, by rw [HD.out], by rw [HD.out]; exact HI⟩
        case measure => simp [intOf]; omega
      · have hq : (!(y.toList == x.toList)) = true := by
          show (y.toList != x.toList) = true
          rw [bne_iff_ne, ByteArray.toList_eq, ByteArray.toList_eq]
          exact fun h => hyx (bytes_inj h)
        have HD := hide (HDN.out.trans (if_neg hyx))
        clear hyx
        have ho := HI.out.1
        have hbw := HI.out.2.size
        generalize del (L.take k) x = M at *
        go_wp2_with (at_builtin; go_must (refine append_names rfl (.tmp 19) (.tmp 24) rfl w.heap.size _ M.length M rfl (ho.alloc _) (some ⟨wr.heap.size, 0, none⟩) 1 1 [y] rfl (fun e => by cases e) rfl (reads_new wr [.string y] 31) (by omega) (by simp; omega) ?_; intro v3 w3 ho3 hg3; refine Hid.out ?_))
        refine Lib.hid ?_
        have hb3 : Below w.heap.size w w3 := (HI.out.2.alloc (by omega) _).grown hg3 (by simp; omega) (fun q hq => (ho.lt q hq).1)
        obtain ⟨a5, c5, rfl, _, _⟩ := own_formS ho3
        have HO5 := hide ho3
        have HB3 := hide hb3
        have HL5 := hide (show M.length + 1 = (M ++ [y]).length by simp)
        clear ho3 hg3 hb3 ho
        go_wp2_with fail
        go_roundw
        case rel => exact ⟨k + 1, a5, c5, by omega, by go_num, by rw [HD.out, ← HL5.out], by rw [HD.out]; refine Lib.hid ?_; rw [← HL5.out]; exact ⟨HO5.out, HB3.out⟩⟩
        case measure => simp [intOf]; omega
    · obtain rfl : k = L.length := by omega
      have hlt' : ¬ (L.length : Int) < (L.length : Int) := by omega
      have HD := hide (show del (L.take L.length) x = del L x by rw [List.take_of_length_le (Nat.le_refl _)])
      go_wp2
      go_ret
      have := HI.out.1
      rw [HD.out] at this
      exact ⟨.slice a2 (del L x).length c2, rfl, by simpa [HD.out] using this, HI.out.2⟩
end Go.Proofs.Ytandbkbodlbjcaa
