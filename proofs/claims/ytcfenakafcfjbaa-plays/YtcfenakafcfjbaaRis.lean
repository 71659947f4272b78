/- gleanerref1.Rise. -/
import Derived.Test.YtcfenakafcfjbaaAlv
namespace Go.Proofs.Ytcfenakafcfjbaa
open Go.RowKit Go.ChangeShapes Go.WideShapes Go.ChangeAt Go.Deep Go.Maps Go.Sort

theorem slice_from {w : World} {a : Option Addr} {cap k : Nat} {L : List Int} (hr : Reads w a (iV L)) (hk : k ≤ L.length) (hc : L.length ≤ cap) (hnil : a = none → L.length = 0 ∧ cap = 0) :
    ∃ a1 c1, (∀ w, (Instr.slice 22 (.slice a L.length cap) (some (.int .i64 (k : Int))) none none).run Try.prog w = .ok (.slice a1 (L.length - k) c1) w) ∧ (a1 = none → L.length - k = 0 ∧ c1 = 0) ∧ Reads w a1 (iV (L.drop k)) := by
  have hel : Try.prog.underlying 22 = some (.slice (Try.prog.elem 22)) := by kernel_rfl
  refine ⟨if cap = k then a else a.map (·.add k), cap - k, fun w => ?_, fun h => ?_, ?_⟩
  · rw [run_slice_l w 22 a L.length cap hel .i64 (k : Int) (by omega) (by omega)]
    rw [show Try.prog.elem 22 = 3 by kernel_rfl, Try.sizeOf3]
    simp only [Result.andThen, sliced, Int.toNat_natCast, Nat.mul_one]
  · have : a = none := by
      split at h
      · exact h
      · simpa using h
    have := hnil this; omega
  · rcases hr with hr | ⟨b, off, e, hr⟩
    · have : L = [] := by simpa [iV] using hr
      subst this
      exact .inl (by simp [iV])
    · by_cases hkl : k < L.length
      · rw [if_neg (by omega), e]
        refine .inr ⟨b, off + k, by simp [add_none], fun j u hu => ?_⟩
        rw [Nat.add_assoc]
        refine hr (k + j) u ?_
        simp only [iV, List.getElem?_map, List.getElem?_drop] at hu ⊢
        exact hu
      · exact .inl (by rw [List.drop_of_length_le (by omega)]; rfl)
theorem slice_to {w : World} {a : Option Addr} {cap k : Nat} {L : List Int} (hr : Reads w a (iV L)) (hk : k ≤ L.length) (hc : L.length ≤ cap) (hnil : a = none → L.length = 0 ∧ cap = 0) :
    ∃ a1 c1, (∀ w, (Instr.slice 22 (.slice a L.length cap) none (some (.int .i64 (k : Int))) none).run Try.prog w = .ok (.slice a1 k c1) w) ∧ (a1 = none → k = 0 ∧ c1 = 0) ∧ Reads w a1 (iV (L.take k)) := by
  have hel : Try.prog.underlying 22 = some (.slice (Try.prog.elem 22)) := by kernel_rfl
  refine ⟨a, cap, fun w => ?_, fun h => ?_, ?_⟩
  · rw [run_slice_h w 22 a L.length cap hel .i64 (k : Int) (by omega) (by omega)]
    rw [show Try.prog.elem 22 = 3 by kernel_rfl, Try.sizeOf3]
    simp only [Result.andThen, sliced, Int.toNat_natCast, Nat.zero_mul, Nat.sub_zero]
    rw [show (a.map fun x => x.add 0) = a by cases a <;> simp [Addr.add_zero']]
    split <;> rfl
  · have := hnil h; omega
  · rcases hr with hr | ⟨b, off, e, hr⟩
    · have : L = [] := by simpa [iV] using hr
      subst this
      exact .inl (by simp [iV])
    · refine .inr ⟨b, off, e, fun j u hu => hr j u ?_⟩
      simp only [iV, List.getElem?_map, List.getElem?_take] at hu ⊢
      split at hu
      · exact hu
      · simp at hu
def lessB (a b : Int) : Bool := decide (a < b)
/-- How many names at a list's beginning are less than x. -/
def leadN (x : Int) : List Int → Nat
  | [] => 0
  | a :: r => if lessB a x then leadN x r + 1 else 0
theorem lead_is (x : Int) : ∀ (L : List Int) (k : Nat), k ≤ L.length → (∀ j a, j < k → L[j]? = some a → lessB a x = true) → (∀ a, L[k]? = some a → lessB a x = false) → leadN x L = k
  | [], k, h1, _, _ => by simp at h1; subst h1; rfl
  | a :: r, 0, _, _, h3 => by
    unfold leadN
    rw [h3 a rfl]; rfl
  | a :: r, k + 1, h1, h2, h3 => by
    unfold leadN
    rw [h2 0 a (by omega) rfl, if_pos rfl, lead_is x r k (by simpa using h1) (fun j b hj hb => h2 (j + 1) b (by omega) (by simpa using hb)) (fun b hb => h3 b (by simpa using hb))]
/-- A number put into a rising list, once. -/
def riseL (L : List Int) (x : Int) : List Int := if L[leadN x L]? = some x then L else L.take (leadN x L) ++ [x] ++ L.drop (leadN x L)
theorem own_formI {w : World} {B : Nat} {v : Value} {L : List Int} (ho : w.ownsRow B 3 1 v L.length (iV L)) : ∃ a cap, v = .slice a L.length cap ∧ L.length ≤ cap ∧ (a = none → L.length = 0 ∧ cap = 0) ∧ Reads w a (iV L) := by
  obtain ⟨a, cap, e, h1, h2, _, _⟩ := own_reads ho
  refine ⟨a, cap, e, h1, fun ha => ?_, h2⟩
  rcases ho.2 with ⟨e2, h0⟩ | ⟨g, c, cur, e2, _⟩
  · rw [e] at e2; simp at e2; exact ⟨h0, e2.2.2⟩
  · rw [e, ha] at e2; simp at e2
theorem reads_iV {w : World} {a : Option Addr} {L : List Int} {k : Nat} {x : Int} (h : Reads w a (iV L)) (hk : L[k]? = some x) : ∃ b off, a = some ⟨b, off, none⟩ ∧ ∀ j y, L[j]? = some y → w.cell? ⟨b, off + j, none⟩ = some (.int .i64 y) := by
  obtain ⟨h1, h2⟩ := List.getElem?_eq_some_iff.1 hk
  obtain ⟨b, off, e, hc⟩ := reads_at h h1
  exact ⟨b, off, e, fun j y hy => hc.out j _ (by simp [iV, hy])⟩
theorem chain {a b c : World} (h : Below a.heap.size a b) (k : Below b.heap.size b c) : Below a.heap.size a c := h.trans (k.mono h.size)
/-- Put's answer. -/
def RisePost (L : List Int) (x : Int) (B : Nat) (w : World) (e : Ending) (w' : World) : Prop := ∃ v', e = .returned v' ∧ w'.ownsRow B 3 1 v' (riseL L x).length (iV (riseL L x)) ∧ Below w.heap.size w w'

set_option maxRecDepth 100000 in
set_option maxHeartbeats 2000000 in
theorem rise_any (L : List Int) (x : Int) (B : Nat) (v : Value) (w : World) (ho : w.ownsRow B 3 1 v L.length (iV L)) (hlen : L.length ≤ 1000) (hB : B ≤ w.heap.size) :
    Calls Try.prog 26 #[v, .int .i64 x] w (RisePost L x B w) := by
  obtain ⟨a, cap, rfl, hcap, hnil, hr⟩ := own_formI ho
  have HR := hide hr
  have HNI := hide hnil
  have HO := hide ho
  unfold RisePost
  clear hr hnil ho
  go_enter Try.func26, Try.ntmps26
  go_wp2_with fail
  go_loopw [5] (fun i wr => wr = w ∧ ∃ k : Nat, k ≤ L.length ∧ i = .int .i64 (k : Nat) ∧ Hid (∀ j a, j < k → L[j]? = some a → lessB a x = true)) (fun i _ => L.length - (intOf i).toNat)
  case atStart => exact ⟨rfl, 0, by omega, rfl, fun j a hj => by omega⟩
  case round =>
    obtain ⟨rfl, k, hk, rfl, hh⟩ := hrel
    by_cases hlt : k < L.length
    · have hlt' : (k : Int) < (L.length : Int) := by omega
      obtain ⟨y, hy⟩ : ∃ y, L[k]? = some y := ⟨L[k], List.getElem?_eq_getElem hlt⟩
      obtain ⟨b, off, rfl, hc⟩ := reads_iV (k := k) (x := y) HR.out hy
      have c1 := hc k y hy
      clear hc
      cases hless : lessB y x with
      | true =>
        have hl : y < x := by simpa [lessB] using hless
        have HN := hide (show ∀ j a, j < k + 1 → L[j]? = some a → lessB a x = true from fun j a hj ha => by
          rcases Nat.lt_or_ge j k with h | h
          · exact hh.out j a h ha
          · have : j = k := by omega
            subst this
            rw [hy] at ha
            cases ha
            exact hless)
        clear hh hy hless
        go_wp2_with fail
        go_roundw
        case rel => exact ⟨by trivial, k + 1, by omega, by go_num, HN⟩
        case measure => simp [intOf]; omega
      | false =>
        have hl : ¬ y < x := by simpa [lessB] using hless
        have hlead : leadN x L = k := lead_is x L k hk hh.out (fun a ha => by rw [hy] at ha; cases ha; exact hless)
        by_cases hyx : y = x
        · subst hyx
          have hq : (y == y) = true := by simp
          have HP := hide (show riseL L y = L by unfold riseL; rw [hlead, if_pos hy])
          clear hh hy hless hlead
          go_wp2_with fail
          go_ret
          refine ⟨_, rfl, ?_, Below.refl _ _⟩
          rw [HP.out]
          exact HO.out
        · have hq : (y == x) = false := by rw [beq_eq_false_iff_ne]; exact hyx
          have hput : riseL L x = L.take k ++ [x] ++ L.drop k := by
            unfold riseL
            rw [hlead, if_neg (by rw [hy]; intro h; exact hyx (Option.some.inj h))]
          clear hy hless hlead hyx
          obtain ⟨a1, c1, ks, hn1, hr1⟩ := slice_from HR.out hk hcap HNI.out
          obtain ⟨a2, c2, kt, hn2, hr2⟩ := slice_to HR.out hk hcap HNI.out
          have HR1 := hide hr1
          have HR2 := hide hr2
          have HP := hide hput
          have hm : (L.drop k).length = L.length - k := by simp
          have hm2 : (L.take k).length = k := by simp; omega
          have HM := hide hm
          have HM2 := hide hm2
          clear hr1 hr2 hput hm hm2 hh
          go_wp2_with (at_builtin; go_must (refine append_ints rfl (.const (.slice none 0 0)) (.tmp 36) rfl wr.heap.size (.slice none 0 0) 0 [] rfl (by simpa [iV] using World.ownsRow_nil wr _ 3 1) a1 (L.length - k) c1 (L.drop k) rfl hn1 HM.out HR1.out (by omega) (Nat.le_refl _) ?_; intro v1 w1 ho1 hg1; refine Hid.out ?_))
          refine Lib.hid ?_
          have hb1 : Below wr.heap.size wr w1 := below_of hg1
          have ho1' : w1.ownsRow wr.heap.size 3 1 v1 (L.drop k).length (iV (L.drop k)) := by rw [HM.out]; simpa using ho1
          have HR3 := hide (HR2.out.below hb1)
          have hs1 := hb1.size
          clear ho1 hg1
          go_wp2_with (at_builtin; go_must (refine append_ints rfl (.const (.slice none 0 0)) (.tmp 40) rfl w1.heap.size (.slice none 0 0) 0 [] rfl (by simpa [iV] using World.ownsRow_nil w1 _ 3 1) a2 k c2 (L.take k) rfl hn2 HM2.out HR3.out (by omega) (Nat.le_refl _) ?_; intro v2 w2 ho2 hg2; refine Hid.out ?_))
          refine Lib.hid ?_
          have hb2 : Below w1.heap.size w1 w2 := below_of hg2
          have hs2 := hb2.size
          have ho2' : w2.ownsRow w1.heap.size 3 1 v2 k (iV (L.take k)) := by simpa using ho2
          clear ho2 hg2
          go_wp2_with (at_builtin; go_must (refine append_ints rfl (.tmp 41) (.tmp 43) rfl w1.heap.size v2 k (L.take k) rfl (ho2'.alloc _) (some ⟨w2.heap.size, 0, none⟩) 1 1 [x] rfl (fun h => by cases h) rfl (reads_new _ [.int .i64 x] 3) (by omega) (by simp; omega) ?_; intro v3 w3 ho3 hg3; refine Hid.out ?_))
          refine Lib.hid ?_
          have hb3 : Below w1.heap.size w1 w3 := (hb2.alloc (by omega) _).grown hg3 (by simp; omega) (fun q hq => (ho2'.lt q hq).1)
          have hs3 := hb3.size
          obtain ⟨a4, c4, rfl, hc4, hn4, hr4⟩ := own_formI (own_below ho1' hb3)
          have HR4 := hide hr4
          clear hr4 hg3 ho2' ho1'
          have hm4 := HM.out
          rw [hm4] at hn4
          rw [hm4]
          go_wp2_with (at_builtin; go_must (refine append_ints rfl (.tmp 44) (.tmp 45) rfl w1.heap.size v3 (k + 1) (L.take k ++ [x]) rfl ho3 a4 (L.length - k) c4 (L.drop k) rfl hn4 HM.out HR4.out (by omega) (by omega) ?_; intro v5 w5 ho5 hg5))
          have hb5 : Below w1.heap.size w1 w5 := hb3.grown hg5 (by omega) (fun q hq => (ho3.lt q hq).1)
          go_ret
          refine ⟨_, rfl, ?_, chain hb1 hb5⟩
          rw [HP.out, show (L.take k ++ [x] ++ L.drop k).length = k + 1 + (L.length - k) by simp; omega]
          exact own_monoI ho5 (by omega)
    · have hlt' : ¬ (k : Int) < (L.length : Int) := by omega
      have hlead : leadN x L = k := lead_is x L k hk hh.out (fun a ha => by rw [List.getElem?_eq_none (by omega)] at ha; cases ha)
      have hput : riseL L x = L.take k ++ [x] ++ L.drop k := by
        unfold riseL
        rw [hlead, if_neg (by rw [List.getElem?_eq_none (by omega)]; simp)]
      clear hlead
      obtain ⟨a1, c1, ks, hn1, hr1⟩ := slice_from HR.out hk hcap HNI.out
      obtain ⟨a2, c2, kt, hn2, hr2⟩ := slice_to HR.out hk hcap HNI.out
      have HR1 := hide hr1
      have HR2 := hide hr2
      have HP := hide hput
      have hm : (L.drop k).length = L.length - k := by simp
      have hm2 : (L.take k).length = k := by simp; omega
      have HM := hide hm
      have HM2 := hide hm2
      clear hr1 hr2 hput hm hm2 hh
      go_wp2_with (at_builtin; go_must (refine append_ints rfl (.const (.slice none 0 0)) (.tmp 36) rfl wr.heap.size (.slice none 0 0) 0 [] rfl (by simpa [iV] using World.ownsRow_nil wr _ 3 1) a1 (L.length - k) c1 (L.drop k) rfl hn1 HM.out HR1.out (by omega) (Nat.le_refl _) ?_; intro v1 w1 ho1 hg1; refine Hid.out ?_))
      refine Lib.hid ?_
      have hb1 : Below wr.heap.size wr w1 := below_of hg1
      have ho1' : w1.ownsRow wr.heap.size 3 1 v1 (L.drop k).length (iV (L.drop k)) := by rw [HM.out]; simpa using ho1
      have HR3 := hide (HR2.out.below hb1)
      have hs1 := hb1.size
      clear ho1 hg1
      go_wp2_with (at_builtin; go_must (refine append_ints rfl (.const (.slice none 0 0)) (.tmp 40) rfl w1.heap.size (.slice none 0 0) 0 [] rfl (by simpa [iV] using World.ownsRow_nil w1 _ 3 1) a2 k c2 (L.take k) rfl hn2 HM2.out HR3.out (by omega) (Nat.le_refl _) ?_; intro v2 w2 ho2 hg2; refine Hid.out ?_))
      refine Lib.hid ?_
      have hb2 : Below w1.heap.size w1 w2 := below_of hg2
      have hs2 := hb2.size
      have ho2' : w2.ownsRow w1.heap.size 3 1 v2 k (iV (L.take k)) := by simpa using ho2
      clear ho2 hg2
      go_wp2_with (at_builtin; go_must (refine append_ints rfl (.tmp 41) (.tmp 43) rfl w1.heap.size v2 k (L.take k) rfl (ho2'.alloc _) (some ⟨w2.heap.size, 0, none⟩) 1 1 [x] rfl (fun h => by cases h) rfl (reads_new _ [.int .i64 x] 3) (by omega) (by simp; omega) ?_; intro v3 w3 ho3 hg3; refine Hid.out ?_))
      refine Lib.hid ?_
      have hb3 : Below w1.heap.size w1 w3 := (hb2.alloc (by omega) _).grown hg3 (by simp; omega) (fun q hq => (ho2'.lt q hq).1)
      have hs3 := hb3.size
      obtain ⟨a4, c4, rfl, hc4, hn4, hr4⟩ := own_formI (own_below ho1' hb3)
      have HR4 := hide hr4
      clear hr4 hg3 ho2' ho1'
      have hm4 := HM.out
      rw [hm4] at hn4
      rw [hm4]
      go_wp2_with (at_builtin; go_must (refine append_ints rfl (.tmp 44) (.tmp 45) rfl w1.heap.size v3 (k + 1) (L.take k ++ [x]) rfl ho3 a4 (L.length - k) c4 (L.drop k) rfl hn4 HM.out HR4.out (by omega) (by omega) ?_; intro v5 w5 ho5 hg5))
      have hb5 : Below w1.heap.size w1 w5 := hb3.grown hg5 (by omega) (fun q hq => (ho3.lt q hq).1)
      go_ret
      refine ⟨_, rfl, ?_, chain hb1 hb5⟩
      rw [HP.out, show (L.take k ++ [x] ++ L.drop k).length = k + 1 + (L.length - k) by simp; omega]
      exact own_monoI ho5 (by omega)
end Go.Proofs.Ytcfenakafcfjbaa
