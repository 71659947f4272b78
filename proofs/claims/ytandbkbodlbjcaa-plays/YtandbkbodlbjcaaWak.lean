/- A table's methods: Wake. -/
import Derived.Test.YtandbkbodlbjcaaLea
namespace Go.Proofs.Ytandbkbodlbjcaa
open Go.RowKit Go.ChangeShapes Go.WideShapes Go.ChangeAt Go.Deep Go.Maps Go.Sort

/-- Wake's answer: those that were parked on one of these, rising, are ready. -/
def WakeP (κ : Cl) (w : World) (cb : Nat) (T : Tb) (O : List ByteArray) (P : Pk) (e : Ending) (w' : World) : Prop :=
  ∃ a c R κ', e = .returned (.slice a R.length c) ∧ RN w' a R.length c R ∧ (∀ b, blk a = some b → w.heap.size ≤ b ∧ κ' b = none) ∧ R.Pairwise ltB ∧ (∀ x, x ∈ R ↔ x ∈ O) ∧ R.length ≤ 1000 ∧
    TabM κ' w' cb { T with prk := P, rdy := T.rdy ++ R } ∧ Stp κ κ' w w'

theorem leaveL_sub (p : Pk) (L : List ByteArray) : ∀ s : List ByteArray × Pk, (∀ x ∈ s.1, ∃ q ∈ p, q.1 = x) → (∀ q ∈ s.2, q ∈ p) → ∀ x ∈ (L.foldl leaveS s).1, ∃ q ∈ p, q.1 = x := by
  induction L with
  | nil => intro s h1 h2; exact h1
  | cons y r ih =>
    intro s h1 h2
    rw [List.foldl_cons]
    refine ih _ (fun x hx => ?_) (fun q hq => h2 q (List.mem_filter.1 hq).1)
    simp only [leaveS, List.mem_append] at hx
    rcases hx with hx | hx
    · exact h1 x hx
    · obtain ⟨q, hq, rfl⟩ := List.mem_map.1 hx
      exact ⟨q, h2 q (List.mem_filter.1 hq).1, rfl⟩
theorem leave_small {κ : Cl} {w : World} {cb : Nat} {T : Tb} (h : TabM κ w cb T) (L : List ByteArray) : ∀ x ∈ (leaveL T.prk L).1, x.size ≤ 12 := fun x hx => by
  obtain ⟨h1, h2, vr, vg, vp, va, h3, h4, h5, h6, h7⟩ := h
  obtain ⟨q, hq, rfl⟩ := leaveL_sub T.prk L ([], T.prk) (fun x hx => by cases hx) (fun q hq => hq) x hx
  exact (h6.1 q hq).1

set_option maxRecDepth 100000 in
set_option maxHeartbeats 4000000 in
theorem wake_any {κ : Cl} {w : World} {cb : Nat} {T : Tb} (h : TabM κ w cb T) (L : List ByteArray) (ad : Option Addr) (cap : Nat) (hr : Reads w ad (nV L)) (hκ : ∀ a0, ad = some a0 → 0 < L.length → κ a0.block = none) (hL : L.length ≤ 1000) (hLz : ∀ x ∈ L, x.size ≤ 1000000) (hp : T.prk.length ≤ 1000) (hrd : T.rdy.length ≤ 10000) :
    Calls Try.prog 19 #[.pointer (some ⟨cb, 0, none⟩), .slice ad L.length cap] w (WakeP κ w cb T (leaveL T.prk L).1 (leaveL T.prk L).2) := by
  have C47 := hide (leave_any h L ad cap hr hκ hL hLz hp)
  unfold LeaveP at C47
  have HSM := hide (leave_small h L)
  have hlen := leaveL_len L ([], T.prk)
  have HLT := hide h.1
  have e0 : leaveL T.prk L = L.foldl leaveS ([], T.prk) := rfl
  rw [← e0] at hlen
  have HLN := hide (show (leaveL T.prk L).1.length ≤ 1000 by simp at hlen; omega)
  generalize leaveL T.prk L = lv at *
  obtain ⟨O, P⟩ := lv
  dsimp only at *
  clear h hr hκ hL hLz hp hlen e0
  go_enter Try.func19, Try.ntmps19
  go_upto_region 2 with (first
    | (go_at_call 47; ((with_reducible refine C47.out.mono ?_); rintro e w1 ⟨v1, rfl, ho1, hT1, hS1⟩; obtain ⟨a1, c1, rfl, hR1, _⟩ := own_formS ho1; have HT1 := hide hT1; have HS1 := hide hS1; have C46 := hide (sort_ris O a1 c1 w1 hR1.reads HLN.out (fun e => by subst e; exact hR1.none_nil.1) HSM.out); unfold RisP at C46; clear ho1 hT1 hS1 hR1))
    | (go_at_call 46; ((with_reducible refine C46.out.mono ?_); rintro e w2 ⟨v2, R, rfl, ho, hr1, hr2, hrl, hb2⟩; obtain ⟨a, c, rfl, hR2, hpos⟩ := own_formS ho; have HR2 := hide hR2; have HP2 := hide hpos; have HB2 := hide hb2; have HR1 := hide hr1; have HRM := hide hr2; have HRL := hide hrl; clear ho hb2 hr1 hr2 hrl hR2 hpos)))
  have HT2 := hide (HT1.out.below HB2.out)
  have HS2 := hide (HS1.out.trans (Stp.ofB HB2.out))
  have hs1 := HS1.out.kp.size
  have HAK := hide (show ∀ b, blk a = some b → w.heap.size ≤ b ∧ κ b = none from fun b hb => by
    have h1 := HP2.out b hb
    refine ⟨by omega, ?_⟩
    cases hc : κ b with
    | none => rfl
    | some t => have := HLT.out b (by rw [hc]; simp); omega)
  clear hs1 C46 C47 HT1 HS1 HB2 HP2
  go_wp2
  go_loopw [16] (fun i wr => ∃ (k : Nat) (κk : Cl), k ≤ R.length ∧ i = .int .i64 (k : Nat) ∧ Hid (TabM κk wr cb { T with prk := P, rdy := T.rdy ++ R.take k } ∧ Stp κ κk w wr ∧ RN wr a R.length c R ∧ ∀ b, blk a = some b → w.heap.size ≤ b ∧ κk b = none)) (fun i _ => R.length - (intOf i).toNat)
  case atStart => exact ⟨0, κ, by omega, rfl, hide ⟨by simpa using HT2.out, HS2.out, HR2.out, HAK.out⟩⟩
  case round =>
    obtain ⟨k, κk, hk, rfl, HI⟩ := hrel
    by_cases hlt : k < R.length
    · obtain ⟨x, hx⟩ : ∃ x, R[k]? = some x := ⟨R[k], List.getElem?_eq_getElem hlt⟩
      obtain ⟨b, off, rfl, hcx⟩ := reads_nV (k := k) (x := x) HI.out.2.2.1.reads hx
      have cx := hcx.out k x hx
      have hx12 : x.size ≤ 12 := HSM.out x ((HRM.out x).1 (List.mem_of_getElem? hx))
      have CA := hide (fun w => tapart_any x (by omega) w)
      have HX := hide hx12
      have hrl := HRL.out
      have HLL := hide (show (T.rdy ++ R.take k).length ≤ 100000 by simp; omega)
      have HTK := hide (show T.rdy ++ R.take k ++ [x] = T.rdy ++ R.take (k + 1) by rw [List.take_add_one, hx]; simp)
      have hlI : (k : Int) < (R.length : Int) := by omega
      clear hx hcx hx12
      go_upto_region 5 with fail
      go_region_held3 (fun _ => True) (exact True.intro) (first
        | (go_at_call 36; (with_reducible refine (CA.out _).mono ?_); rintro e w5 ⟨rfl, hb5⟩; have HT5 := hide (HI.out.1.drew.below hb5); have HB5 := hide (show Below wr.heap.size wr w5 from below_undrew hb5); clear hb5)
        | (go_at_call 37; (with_reducible refine (tab_line HT5.out x HX.out HLL.out).mono ?_); rintro e w6 ⟨rfl, κ6, hT6, hS6⟩; have HT6 := hide hT6; have HS6 := hide ((Stp.ofB (κ := κk) HB5.out).trans hS6); clear hT6 hS6))
      go_wp2
      go_roundw
      case rel =>
        refine ⟨k + 1, κ6, by omega, by go_num, hide ⟨?_, HI.out.2.1.trans HS6.out, HI.out.2.2.1.keep HS6.out.kp.size (fun q hq => HS6.out.kp.block q (HI.out.2.2.1.lt hq) (fun e => e (HI.out.2.2.2 q hq).2)), fun q hq => ⟨(HI.out.2.2.2 q hq).1, by rw [HS6.out.col q (HI.out.2.2.1.lt hq)]; exact (HI.out.2.2.2 q hq).2⟩⟩⟩
        rw [← HTK.out]; exact HT6.out
      case measure => simp [intOf]; omega
    · obtain rfl : k = R.length := by omega
      have hlI : ¬ (R.length : Int) < (R.length : Int) := by omega
      go_wp2
      go_ret
      have hT := HI.out.1
      rw [List.take_of_length_le (Nat.le_refl _)] at hT
      exact ⟨a, c, R, κk, rfl, HI.out.2.2.1, HI.out.2.2.2, HR1.out, HRM.out, HRL.out, hT, HI.out.2.1⟩
end Go.Proofs.Ytandbkbodlbjcaa
