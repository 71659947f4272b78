/- gleanerref1.ReadInt. -/
import Derived.Test.YtfnloomcianbiaaGreatDoorNumP
import Derived.Test.YtfnloomcianbiaaGreatDoorSame
namespace Go.Proofs.YtfnloomcianbiaaGreatDoor
open Go.RowKit Go.ChangeShapes Go.WideShapes Go.ChangeAt Go.Deep

/-- What ReadInt answers of a text. -/
def readV (s : ByteArray) : Value := match num s with
  | some v => .tuple #[.int .i64 v, .bool true]
  | none => .tuple #[.int .i64 0, .bool false]
theorem readV_some {s : ByteArray} {v : Int} (h : num s = some v) : readV s = .tuple #[.int .i64 v, .bool true] := by unfold readV; rw [h]
theorem readV_none {s : ByteArray} (h : num s = none) : readV s = .tuple #[.int .i64 0, .bool false] := by unfold readV; rw [h]
theorem take_dig {d : List UInt8} {k : Nat} {x : UInt8} (h : Digs (d.take k)) (hx : d[k]? = some x) (hd : 48 ≤ x.toNat ∧ x.toNat ≤ 57) : Digs (d.take (k + 1)) := by
  intro c hc
  rw [List.take_add_one, hx] at hc
  rcases List.mem_append.1 hc with hc | hc
  · exact h c hc
  · simp only [Option.toList_some, List.mem_singleton] at hc
    rw [hc]; exact hd
theorem val_take_succ {d : List UInt8} {k : Nat} {x : UInt8} (hx : d[k]? = some x) : val (d.take (k + 1)) = 10 * val (d.take k) + (x.toNat - 48) := by
  rw [List.take_add_one, hx]
  exact val_snoc _ _
theorem tdiv_least {v : Nat} {c : Int} (h : 0 ≤ c ∧ c ≤ 9) : (-((v : Nat) : Int) < (-9223372036854775808 + c).tdiv 10) ↔ 9223372036854775808 < 10 * (v : Int) + c := by
  have e : (-9223372036854775808 + c).tdiv 10 = -((9223372036854775808 - c) / 10) := by
    have : (-9223372036854775808 + c) = -(9223372036854775808 - c) := by omega
    rw [this, Int.neg_tdiv, Int.tdiv_eq_ediv_of_nonneg (by omega)]
  rw [e]
  omega
/-- Why a text is no number. -/
structure NoNum (ng : Bool) (d : List UInt8) : Prop where
  no : ∀ (s : ByteArray), (ng = true → s.data.toList = 45 :: d) → (ng = false → s.data.toList = d ∧ d.head? ≠ some 45) → num s = none
theorem noNum {ng : Bool} {d : List UInt8} (h : Canon d → (ng = true → 0 < val d ∧ val d ≤ 9223372036854775808) → (ng = false → val d ≤ 9223372036854775807) → False) : NoNum ng d := by
  refine ⟨fun s h1 h2 => num_no (fun d' a b c => ?_) (fun d' a b c e => ?_)⟩
  · cases ng with
    | false =>
      have : d' = d := by rw [← a]; exact (h2 rfl).1
      subst this
      exact h b (fun h => by cases h) (fun _ => c)
    | true =>
      have e1 := h1 rfl
      rw [a] at e1
      subst e1
      have := b.digs 45 (by simp)
      revert this; decide
  · cases ng with
    | true =>
      have : d' = d := by
        have := (h1 rfl).symm.trans a
        simpa using this.symm
      subst this
      exact h b (fun _ => ⟨c, e⟩) (fun h => by cases h)
    | false =>
      obtain ⟨e1, e2⟩ := h2 rfl
      rw [a] at e1
      rw [← e1] at e2
      simp at e2

theorem no_long {ng : Bool} {d : List UInt8} (h : 19 < d.length) : NoNum ng d := noNum fun hc h1 h2 => by
  rcases hc.head with h3 | h3
  · omega
  · have h4 := val_long (d.length - 1) d (by omega) hc h3
    have h5 : 10 ^ 19 ≤ 10 ^ (d.length - 1) := Nat.pow_le_pow_right (by decide) (by omega)
    cases ng with
    | true => have := h1 rfl; omega
    | false => have := h2 rfl; omega
theorem no_lead {ng : Bool} {d : List UInt8} (h : 1 < d.length) (h0 : d.head? = some 48) : NoNum ng d := noNum fun hc _ _ => by
  rcases hc.head with h3 | h3
  · omega
  · exact h3 h0
theorem no_dig {ng : Bool} {d : List UInt8} {k : Nat} {x : UInt8} (hx : d[k]? = some x) (h : ¬ (48 ≤ x.toNat ∧ x.toNat ≤ 57)) : NoNum ng d := noNum fun hc _ _ => h (hc.digs x (List.mem_of_getElem? hx))
theorem no_big {ng : Bool} {d : List UInt8} {k : Nat} (h : 9223372036854775808 < val (d.take k)) : NoNum ng d := noNum fun _ h1 h2 => by
  have := val_take d k
  cases ng with
  | true => have := h1 rfl; omega
  | false => have := h2 rfl; omega

theorem no_zero {d : List UInt8} (h0 : d.head? = some 48) : NoNum true d := noNum fun hc h1 _ => by
  have hp := (h1 rfl).1
  rcases hc.head with h | h
  · match d, h0, h with
    | [a], h, _ =>
      have : a = 48 := by simpa using h
      rw [this] at hp
      revert hp; decide
    | [], h, _ => simp at h
    | a :: b :: r, _, h => simp at h
  · exact h h0

set_option maxRecDepth 100000 in
set_option maxHeartbeats 2000000 in
theorem readInt_any (s : ByteArray) (hs : s.size ≤ 1000000000) (w : World) : Calls Tryz.prog 39 #[.string s] w fun e w' => e = .returned (readV s) ∧ w' = w := by
  cases hl : s.data.toList with
  | nil =>
    have h0 : s.size = 0 := by rw [Lib.size_eq, hl]; rfl
    have HQ := hide (readV_none (s := s) ((noNum (ng := false) (d := []) (fun h _ _ => h.ne rfl)).no s (fun h => by cases h) (fun _ => ⟨hl, by simp⟩)))
    have h0' : (s.size : Int) = 0 := by omega
    clear hl h0
    go_enter Tryz.func39, Tryz.ntmps39
    go_wp2
    all_goals first
      | (exfalso; omega)
      | (refine bodyPost_ret (v := .tuple #[.int .i64 0, .bool false]) (by simp [results, Tryz.results39, go_sem]) rfl ⟨by rw [HQ.out], rfl⟩)
  | cons c r =>
    have i0 : ∀ w, (Instr.index 9 (.string s) (.int .i64 0)).run Tryz.prog w = .ok (.int .u8 c.toNat) w := fun w => index_str (s := s) (c := c) (j := 0) (by rw [hl]; rfl) w
    have hsz : s.size = r.length + 1 := by rw [Lib.size_eq, hl]; rfl
    have h0 : (0 : Int) < (s.size : Int) := by omega
    by_cases hneg : c.toNat = 45
    · have q45 : (c.toNat : Int) = 45 := by omega
      have hc45 : c = 45 := UInt8.toNat_inj.1 hneg
      subst hc45
      have HS := hide hl
      have hDD : (s.extract 1 (r.length + 1)).data.toList = r := by
        rw [ByteArray.data_extract, Array.toList_extract, hl]
        simp [List.extract]
      go_enter Tryz.func39, Tryz.ntmps39
      clear hneg
      go_upto_region 5 with fail
      generalize s.extract 1 (r.length + 1) = DD at hDD ⊢
      have HD := hide hDD
      have HM0 := hide (show DD.size = r.length by rw [Lib.size_eq, hDD])
      clear hDD hl i0 q45 hsz
      obtain ⟨d, hd⟩ : ∃ d, d = r := ⟨_, rfl⟩
      rw [← hd] at HS HD HM0 ⊢
      obtain ⟨m, hm⟩ : ∃ m, m = DD.size := ⟨_, rfl⟩
      have hsm := hm.symm
      have HM := hide (show m = d.length by rw [hm]; exact HM0.out)
      clear hm HM0
      by_cases h1 : m < 1
      · have HQ := hide (readV_none (s := s) ((noNum (ng := true) (d := d) (fun h _ _ => h.ne (List.eq_nil_of_length_eq_zero (by rw [← HM.out]; omega)))).no s (fun _ => HS.out) (fun h => by cases h)))
        have q1 : (m : Int) < 1 := by omega
        go_wp2
        all_goals first
          | (exfalso; omega)
          | (refine bodyPost_ret (v := .tuple #[.int .i64 0, .bool false]) (by simp [results, Tryz.results39, go_sem]) rfl ⟨by rw [HQ.out], rfl⟩)
      · by_cases h19 : 19 < m
        · have q19 : (19 : Int) < (m : Int) := by omega
          have q1 : ¬ (m : Int) < 1 := by omega
          have HQ := hide (readV_none (s := s) ((no_long (ng := true) (d := d) (by rw [← HM.out]; exact h19)).no s (fun _ => HS.out) (fun h => by cases h)))
          go_wp2
          all_goals first
            | (exfalso; omega)
            | (refine bodyPost_ret (v := .tuple #[.int .i64 0, .bool false]) (by simp [results, Tryz.results39, go_sem]) rfl ⟨by rw [HQ.out], rfl⟩)
        · have hm1' : 1 ≤ m := by omega
          clear h1
          have hmM : m ≤ 19 := by omega
          have hc0 : ∃ c0, d[0]? = some c0 := ⟨d[0]'(by have := HM.out; omega), List.getElem?_eq_getElem _⟩
          obtain ⟨c0, hc0⟩ := hc0
          have j0 : ∀ w, (Instr.index 9 (.string DD) (.int .i64 0)).run Tryz.prog w = .ok (.int .u8 c0.toNat) w := fun w => index_str (s := DD) (j := 0) (by rw [HD.out]; exact hc0) w
          have HH0 := hide (show d.head? = some c0 by
            cases d with
            | nil => simp at hc0
            | cons a b => simpa using hc0)
          have HNE := hide (show d ≠ [] by
            intro h
            rw [h] at hc0
            simp at hc0)
          clear hc0
          have hm1 : ¬ (m : Int) < 1 := by omega
          have hm19 : ¬ (19 : Int) < (m : Int) := by omega
          obtain ⟨n0, hn0⟩ : ∃ n0, n0 = c0.toNat := ⟨_, rfl⟩
          have HN0 := hide hn0
          rw [← hn0] at j0
          clear hn0
          by_cases hz : n0 = 48 ∧ (1 < m ∨ true = true)
          · have HQ := hide (readV_none (s := s) ((show NoNum true d by
              have hc48 : d.head? = some 48 := by
                rw [HH0.out]
                congr 1
                have := HN0.out
                exact UInt8.toNat_inj.1 (by rw [← this, hz.1]; rfl)
              rcases hz.2 with h | h
              · exact no_lead (by rw [← HM.out]; exact h) hc48
              · exact no_zero hc48).no s (fun _ => HS.out) (fun h => by cases h)))
            have hz1 : (n0 : Int) = 48 := by omega
            by_cases h1m : 1 < m
            · have q1m : (1 : Int) < (m : Int) := by omega
              clear hz h1m
              go_wp2
              all_goals first
                | (exfalso; omega)
                | (refine bodyPost_ret (v := .tuple #[.int .i64 0, .bool false]) (by simp [results, Tryz.results39, go_sem]) rfl ⟨by rw [HQ.out], rfl⟩)
            · have q1m : ¬ (1 : Int) < (m : Int) := by omega
              clear hz h1m
              go_wp2
              all_goals first
                | (exfalso; omega)
                | (refine bodyPost_ret (v := .tuple #[.int .i64 0, .bool false]) (by simp [results, Tryz.results39, go_sem]) rfl ⟨by rw [HQ.out], rfl⟩)
          · by_cases hz48 : n0 = 48
            · exact absurd ⟨hz48, .inr rfl⟩ hz
            · have q48 : ¬ (n0 : Int) = 48 := by omega
              have HHD := hide (show d.head? ≠ some 48 by
                rw [HH0.out]
                intro h
                injection h with h
                apply hz48
                rw [HN0.out, h]; rfl)
              have HCAN := hide (show d.length = 1 ∨ d.head? ≠ some 48 from .inr HHD.out)
              clear hz hz48
              go_wp2
              go_loopw [6, 7] (fun n i wr => wr = w ∧ ∃ k : Nat, k ≤ m ∧ i = .int .i64 (k : Nat) ∧ n = .int .i64 (-((val (d.take k) : Nat) : Int)) ∧ Hid (Digs (d.take k)) ∧ Hid (val (d.take k) ≤ 9223372036854775808)) (fun _ i _ => m - (intOf i).toNat)
              case atStart => exact ⟨rfl, 0, Nat.zero_le _, rfl, rfl, (fun c hc => by simp at hc), (by refine Lib.hid ?_; show val [] ≤ _; decide)⟩
              case round =>
                obtain ⟨rfl, k, hk, rfl, rfl, hdig, hvk⟩ := hrel
                by_cases hlt : k < m
                · have hg : ∃ x, d[k]? = some x := ⟨d[k]'(by rw [← HM.out]; exact hlt), List.getElem?_eq_getElem _⟩
                  obtain ⟨x, hx⟩ := hg
                  have ik := fun w => index_str (s := DD) (j := k) (by rw [HD.out]; exact hx) w
                  have hlt' : (k : Int) < (m : Int) := by omega
                  have hxb : x.toNat < 256 := x.toNat_lt
                  have hV := hvk.out
                  by_cases hd : 48 ≤ x.toNat ∧ x.toNat ≤ 57
                  · by_cases hov : 9223372036854775808 < 10 * val (d.take k) + (x.toNat - 48)
                    · have HQ := hide (readV_none (s := s) ((no_big (ng := true) (d := d) (k := k + 1) (by rw [val_take_succ hx]; exact hov)).no s (fun _ => HS.out) (fun h => by cases h)))
                      have qt := (tdiv_least (v := val (d.take k)) (c := (x.toNat : Int) - 48) (by omega)).2 (by omega)
                      generalize x.toNat = n at *
                      generalize val (d.take k) = V at *
                      have a1 : (48 : Int) ≤ (n : Int) := by omega
                      have a2 : (n : Int) ≤ 57 := by omega
                      clear hx hdig hvk hov hd hlt
                      go_wp2
                      refine bodyPost_ret (v := .tuple #[.int .i64 0, .bool false]) (by simp [results, Tryz.results39, go_sem]) rfl ⟨by rw [HQ.out], rfl⟩
                    · have qt : ¬ (-((val (d.take k) : Nat) : Int) < (-9223372036854775808 + ((x.toNat : Int) - 48)).tdiv 10) := fun h => hov (by
                        have := (tdiv_least (v := val (d.take k)) (c := (x.toNat : Int) - 48) (by omega)).1 h
                        omega)
                      have HVS := hide (val_take_succ hx)
                      have HDS := hide (take_dig hdig.out hx hd)
                      generalize x.toNat = n at *
                      generalize val (d.take k) = V at *
                      have a1 : (48 : Int) ≤ (n : Int) := by omega
                      have a2 : (n : Int) ≤ 57 := by omega
                      have b1 : -9223372036854775808 ≤ 10 * (-(V : Int)) ∧ 10 * (-(V : Int)) ≤ 0 := by omega
                      have b2 : -9223372036854775808 ≤ 10 * (-(V : Int)) - ((n : Int) - 48) := by omega
                      have HX := hide hx
                      clear hx hdig hvk hov hd hlt
                      go_wp2
                      go_roundw
                      case rel =>
                        refine ⟨trivial, k + 1, by omega, by go_num, ?_, HDS, ?_⟩
                        · rw [HVS.out]
                          congr 1
                          omega
                        · refine Lib.hid ?_
                          rw [HVS.out]
                          omega
                      case measure => simp [intOf]; omega
                  · have HQ := hide (readV_none (s := s) ((no_dig (ng := true) (d := d) hx hd).no s (fun _ => HS.out) (fun h => by cases h)))
                    generalize x.toNat = n at *
                    generalize val (d.take k) = V at *
                    clear hx hdig hvk
                    by_cases h48 : 48 ≤ n
                    · have a1 : (48 : Int) ≤ (n : Int) := by omega
                      have a2 : ¬ (n : Int) ≤ 57 := by omega
                      have a3 : (9 : Int) < (n : Int) - 48 := by omega
                      clear hd hlt h48
                      go_wp2
                      refine bodyPost_ret (v := .tuple #[.int .i64 0, .bool false]) (by simp [results, Tryz.results39, go_sem]) rfl ⟨by rw [HQ.out], rfl⟩
                    · have a1 : (n : Int) < 48 := by omega
                      have a3 : (n : Int) - 48 < 0 := by omega
                      clear hd hlt h48
                      go_wp2
                      refine bodyPost_ret (v := .tuple #[.int .i64 0, .bool false]) (by simp [results, Tryz.results39, go_sem]) rfl ⟨by rw [HQ.out], rfl⟩
                · have hkm : k = m := by omega
                  subst hkm
                  have hlt' : ¬ (k : Int) < (k : Int) := by omega
                  have htk : d.take k = d := List.take_of_length_le (by rw [HM.out]; exact Nat.le_refl _)
                  rw [htk] at hdig hvk ⊢
                  have hcan : Canon d := ⟨HNE.out, hdig.out, HCAN.out⟩
                  have hval := hvk.out
                  clear hdig hvk htk
                  have HQ := hide (readV_some (num_neg HS.out hcan (val_pos hcan HHD.out) (by omega)))
                  clear hcan
                  generalize val d = V at HQ hval ⊢
                  go_wp2
                  refine bodyPost_ret (v := .tuple #[.int .i64 (-(V : Int)), .bool true]) (by simp [results, Tryz.results39, go_sem]) rfl ⟨by rw [HQ.out], rfl⟩
    · have q45 : ¬ ((c.toNat : Int) = 45) := by omega
      obtain ⟨d, hd⟩ : ∃ d, d = c :: r := ⟨_, rfl⟩
      rw [← hd] at hl
      have HS := hide hl
      have HD := hide hl
      have H45 := hide (show d.head? ≠ some 45 by
        rw [hd]
        intro h
        have : c = 45 := by simpa using h
        apply hneg
        rw [this]; rfl)
      have HM := hide (show s.size = d.length by rw [Lib.size_eq, hl])
      have hm1' : 1 ≤ s.size := by omega
      clear hl hd hsz hneg
      obtain ⟨m, hm⟩ : ∃ m, m = s.size := ⟨_, rfl⟩
      by_cases h19 : 19 < s.size
      · have q19 : (19 : Int) < (s.size : Int) := by omega
        have q1 : ¬ (s.size : Int) < 1 := by omega
        have HQ := hide (readV_none (s := s) ((no_long (ng := false) (d := d) (by rw [← HM.out]; exact h19)).no s (fun h => by cases h) (fun _ => ⟨HS.out, H45.out⟩)))
        clear hm
        go_enter Tryz.func39, Tryz.ntmps39
        go_wp2
        all_goals first
          | (exfalso; omega)
          | (refine bodyPost_ret (v := .tuple #[.int .i64 0, .bool false]) (by simp [results, Tryz.results39, go_sem]) rfl ⟨by rw [HQ.out], rfl⟩)
      · go_enter Tryz.func39, Tryz.ntmps39
        go_upto_region 5 with fail
        have hsm := hm.symm
        clear hm i0 q45
        rw [hsm] at HM h19 hm1'
        have hmM : m ≤ 19 := by omega
        have hc0 : ∃ c0, d[0]? = some c0 := ⟨d[0]'(by have := HM.out; omega), List.getElem?_eq_getElem _⟩
        obtain ⟨c0, hc0⟩ := hc0
        have j0 : ∀ w, (Instr.index 9 (.string s) (.int .i64 0)).run Tryz.prog w = .ok (.int .u8 c0.toNat) w := fun w => index_str (s := s) (j := 0) (by rw [HD.out]; exact hc0) w
        have HH0 := hide (show d.head? = some c0 by
          cases d with
          | nil => simp at hc0
          | cons a b => simpa using hc0)
        have HNE := hide (show d ≠ [] by
          intro h
          rw [h] at hc0
          simp at hc0)
        clear hc0
        have hm1 : ¬ (m : Int) < 1 := by omega
        have hm19 : ¬ (19 : Int) < (m : Int) := by omega
        obtain ⟨n0, hn0⟩ : ∃ n0, n0 = c0.toNat := ⟨_, rfl⟩
        have HN0 := hide hn0
        rw [← hn0] at j0
        clear hn0
        by_cases hz : n0 = 48 ∧ (1 < m ∨ false = true)
        · have HQ := hide (readV_none (s := s) ((show NoNum false d by
            have hc48 : d.head? = some 48 := by
              rw [HH0.out]
              congr 1
              have := HN0.out
              exact UInt8.toNat_inj.1 (by rw [← this, hz.1]; rfl)
            rcases hz.2 with h | h
            · exact no_lead (by rw [← HM.out]; exact h) hc48
            · cases h).no s (fun h => by cases h) (fun _ => ⟨HS.out, H45.out⟩)))
          have hz1 : (n0 : Int) = 48 := by omega
          by_cases h1m : 1 < m
          · have q1m : (1 : Int) < (m : Int) := by omega
            clear hz h1m
            go_wp2
            all_goals first
              | (exfalso; omega)
              | (refine bodyPost_ret (v := .tuple #[.int .i64 0, .bool false]) (by simp [results, Tryz.results39, go_sem]) rfl ⟨by rw [HQ.out], rfl⟩)
          · have q1m : ¬ (1 : Int) < (m : Int) := by omega
            exact absurd hz.2 (by simp only [Bool.false_eq_true, or_false]; exact h1m)
        · by_cases hz48 : n0 = 48
          · have q48 : (n0 : Int) = 48 := by omega
            have h1m : ¬ 1 < m := fun h => hz ⟨hz48, .inl h⟩
            have q1m : ¬ (1 : Int) < (m : Int) := by omega
            have HCAN := hide (show d.length = 1 ∨ d.head? ≠ some 48 from .inl (by rw [← HM.out]; omega))
            clear hz h1m hz48
            go_wp2

            go_loopw [6, 7] (fun n i wr => wr = w ∧ ∃ k : Nat, k ≤ m ∧ i = .int .i64 (k : Nat) ∧ n = .int .i64 (-((val (d.take k) : Nat) : Int)) ∧ Hid (Digs (d.take k)) ∧ Hid (val (d.take k) ≤ 9223372036854775808)) (fun _ i _ => m - (intOf i).toNat)
            case atStart => exact ⟨rfl, 0, Nat.zero_le _, rfl, rfl, (fun c hc => by simp at hc), (by refine Lib.hid ?_; show val [] ≤ _; decide)⟩
            case round =>
              obtain ⟨rfl, k, hk, rfl, rfl, hdig, hvk⟩ := hrel
              by_cases hlt : k < m
              · have hg : ∃ x, d[k]? = some x := ⟨d[k]'(by rw [← HM.out]; exact hlt), List.getElem?_eq_getElem _⟩
                obtain ⟨x, hx⟩ := hg
                have ik := fun w => index_str (s := s) (j := k) (by rw [HD.out]; exact hx) w
                have hlt' : (k : Int) < (m : Int) := by omega
                have hxb : x.toNat < 256 := x.toNat_lt
                have hV := hvk.out
                by_cases hd : 48 ≤ x.toNat ∧ x.toNat ≤ 57
                · by_cases hov : 9223372036854775808 < 10 * val (d.take k) + (x.toNat - 48)
                  · have HQ := hide (readV_none (s := s) ((no_big (ng := false) (d := d) (k := k + 1) (by rw [val_take_succ hx]; exact hov)).no s (fun h => by cases h) (fun _ => ⟨HS.out, H45.out⟩)))
                    have qt := (tdiv_least (v := val (d.take k)) (c := (x.toNat : Int) - 48) (by omega)).2 (by omega)
                    generalize x.toNat = n at *
                    generalize val (d.take k) = V at *
                    have a1 : (48 : Int) ≤ (n : Int) := by omega
                    have a2 : (n : Int) ≤ 57 := by omega
                    clear hx hdig hvk hov hd hlt
                    go_wp2
                    refine bodyPost_ret (v := .tuple #[.int .i64 0, .bool false]) (by simp [results, Tryz.results39, go_sem]) rfl ⟨by rw [HQ.out], rfl⟩
                  · have qt : ¬ (-((val (d.take k) : Nat) : Int) < (-9223372036854775808 + ((x.toNat : Int) - 48)).tdiv 10) := fun h => hov (by
                      have := (tdiv_least (v := val (d.take k)) (c := (x.toNat : Int) - 48) (by omega)).1 h
                      omega)
                    have HVS := hide (val_take_succ hx)
                    have HDS := hide (take_dig hdig.out hx hd)
                    generalize x.toNat = n at *
                    generalize val (d.take k) = V at *
                    have a1 : (48 : Int) ≤ (n : Int) := by omega
                    have a2 : (n : Int) ≤ 57 := by omega
                    have b1 : -9223372036854775808 ≤ 10 * (-(V : Int)) ∧ 10 * (-(V : Int)) ≤ 0 := by omega
                    have b2 : -9223372036854775808 ≤ 10 * (-(V : Int)) - ((n : Int) - 48) := by omega
                    have HX := hide hx
                    clear hx hdig hvk hov hd hlt
                    go_wp2
                    go_roundw
                    case rel =>
                      refine ⟨trivial, k + 1, by omega, by go_num, ?_, HDS, ?_⟩
                      · rw [HVS.out]
                        congr 1
                        omega
                      · refine Lib.hid ?_
                        rw [HVS.out]
                        omega
                    case measure => simp [intOf]; omega
                · have HQ := hide (readV_none (s := s) ((no_dig (ng := false) (d := d) hx hd).no s (fun h => by cases h) (fun _ => ⟨HS.out, H45.out⟩)))
                  generalize x.toNat = n at *
                  generalize val (d.take k) = V at *
                  clear hx hdig hvk
                  by_cases h48 : 48 ≤ n
                  · have a1 : (48 : Int) ≤ (n : Int) := by omega
                    have a2 : ¬ (n : Int) ≤ 57 := by omega
                    have a3 : (9 : Int) < (n : Int) - 48 := by omega
                    clear hd hlt h48
                    go_wp2
                    refine bodyPost_ret (v := .tuple #[.int .i64 0, .bool false]) (by simp [results, Tryz.results39, go_sem]) rfl ⟨by rw [HQ.out], rfl⟩
                  · have a1 : (n : Int) < 48 := by omega
                    have a3 : (n : Int) - 48 < 0 := by omega
                    clear hd hlt h48
                    go_wp2
                    refine bodyPost_ret (v := .tuple #[.int .i64 0, .bool false]) (by simp [results, Tryz.results39, go_sem]) rfl ⟨by rw [HQ.out], rfl⟩
              · have hkm : k = m := by omega
                subst hkm
                have hlt' : ¬ (k : Int) < (k : Int) := by omega
                have htk : d.take k = d := List.take_of_length_le (by rw [HM.out]; exact Nat.le_refl _)
                rw [htk] at hdig hvk ⊢
                have hcan : Canon d := ⟨HNE.out, hdig.out, HCAN.out⟩
                have hval := hvk.out
                clear hdig hvk htk
                by_cases hV : val d = 9223372036854775808
                · have HQ := hide (readV_none (s := s) ((noNum (ng := false) (d := d) (fun _ _ h => by have := h rfl; omega)).no s (fun h => by cases h) (fun _ => ⟨HS.out, H45.out⟩)))
                  have qV : (-((val d : Nat) : Int)) = -9223372036854775808 := by omega
                  generalize (-((val d : Nat) : Int)) = V at qV ⊢
                  clear hcan hval
                  subst qV
                  go_wp2
                  refine bodyPost_ret (v := .tuple #[.int .i64 0, .bool false]) (by simp [results, Tryz.results39, go_sem]) rfl ⟨by rw [HQ.out], rfl⟩
                · have HQ := hide (readV_some (num_pos HS.out hcan (by omega)))
                  have qV : ¬ (-((val d : Nat) : Int)) = -9223372036854775808 := by omega
                  have hb : val d ≤ 9223372036854775807 := by omega
                  clear hcan hval hV
                  generalize val d = V at qV HQ hb ⊢
                  go_wp2
                  refine bodyPost_ret (v := .tuple #[.int .i64 (V : Int), .bool true]) (by simp [results, Tryz.results39, go_sem]) rfl ⟨by rw [HQ.out], rfl⟩
          · have q48 : ¬ (n0 : Int) = 48 := by omega
            have HHD := hide (show d.head? ≠ some 48 by
              rw [HH0.out]
              intro h
              injection h with h
              apply hz48
              rw [HN0.out, h]; rfl)
            have HCAN := hide (show d.length = 1 ∨ d.head? ≠ some 48 from .inr HHD.out)
            clear hz hz48
            go_wp2
            go_loopw [6, 7] (fun n i wr => wr = w ∧ ∃ k : Nat, k ≤ m ∧ i = .int .i64 (k : Nat) ∧ n = .int .i64 (-((val (d.take k) : Nat) : Int)) ∧ Hid (Digs (d.take k)) ∧ Hid (val (d.take k) ≤ 9223372036854775808)) (fun _ i _ => m - (intOf i).toNat)
            case atStart => exact ⟨rfl, 0, Nat.zero_le _, rfl, rfl, (fun c hc => by simp at hc), (by refine Lib.hid ?_; show val [] ≤ _; decide)⟩
            case round =>
              obtain ⟨rfl, k, hk, rfl, rfl, hdig, hvk⟩ := hrel
              by_cases hlt : k < m
              · have hg : ∃ x, d[k]? = some x := ⟨d[k]'(by rw [← HM.out]; exact hlt), List.getElem?_eq_getElem _⟩
                obtain ⟨x, hx⟩ := hg
                have ik := fun w => index_str (s := s) (j := k) (by rw [HD.out]; exact hx) w
                have hlt' : (k : Int) < (m : Int) := by omega
                have hxb : x.toNat < 256 := x.toNat_lt
                have hV := hvk.out
                by_cases hd : 48 ≤ x.toNat ∧ x.toNat ≤ 57
                · by_cases hov : 9223372036854775808 < 10 * val (d.take k) + (x.toNat - 48)
                  · have HQ := hide (readV_none (s := s) ((no_big (ng := false) (d := d) (k := k + 1) (by rw [val_take_succ hx]; exact hov)).no s (fun h => by cases h) (fun _ => ⟨HS.out, H45.out⟩)))
                    have qt := (tdiv_least (v := val (d.take k)) (c := (x.toNat : Int) - 48) (by omega)).2 (by omega)
                    generalize x.toNat = n at *
                    generalize val (d.take k) = V at *
                    have a1 : (48 : Int) ≤ (n : Int) := by omega
                    have a2 : (n : Int) ≤ 57 := by omega
                    clear hx hdig hvk hov hd hlt
                    go_wp2
                    refine bodyPost_ret (v := .tuple #[.int .i64 0, .bool false]) (by simp [results, Tryz.results39, go_sem]) rfl ⟨by rw [HQ.out], rfl⟩
                  · have qt : ¬ (-((val (d.take k) : Nat) : Int) < (-9223372036854775808 + ((x.toNat : Int) - 48)).tdiv 10) := fun h => hov (by
                      have := (tdiv_least (v := val (d.take k)) (c := (x.toNat : Int) - 48) (by omega)).1 h
                      omega)
                    have HVS := hide (val_take_succ hx)
                    have HDS := hide (take_dig hdig.out hx hd)
                    generalize x.toNat = n at *
                    generalize val (d.take k) = V at *
                    have a1 : (48 : Int) ≤ (n : Int) := by omega
                    have a2 : (n : Int) ≤ 57 := by omega
                    have b1 : -9223372036854775808 ≤ 10 * (-(V : Int)) ∧ 10 * (-(V : Int)) ≤ 0 := by omega
                    have b2 : -9223372036854775808 ≤ 10 * (-(V : Int)) - ((n : Int) - 48) := by omega
                    have HX := hide hx
                    clear hx hdig hvk hov hd hlt
                    go_wp2
                    go_roundw
                    case rel =>
                      refine ⟨trivial, k + 1, by omega, by go_num, ?_, HDS, ?_⟩
                      · rw [HVS.out]
                        congr 1
                        omega
                      · refine Lib.hid ?_
                        rw [HVS.out]
                        omega
                    case measure => simp [intOf]; omega
                · have HQ := hide (readV_none (s := s) ((no_dig (ng := false) (d := d) hx hd).no s (fun h => by cases h) (fun _ => ⟨HS.out, H45.out⟩)))
                  generalize x.toNat = n at *
                  generalize val (d.take k) = V at *
                  clear hx hdig hvk
                  by_cases h48 : 48 ≤ n
                  · have a1 : (48 : Int) ≤ (n : Int) := by omega
                    have a2 : ¬ (n : Int) ≤ 57 := by omega
                    have a3 : (9 : Int) < (n : Int) - 48 := by omega
                    clear hd hlt h48
                    go_wp2
                    refine bodyPost_ret (v := .tuple #[.int .i64 0, .bool false]) (by simp [results, Tryz.results39, go_sem]) rfl ⟨by rw [HQ.out], rfl⟩
                  · have a1 : (n : Int) < 48 := by omega
                    have a3 : (n : Int) - 48 < 0 := by omega
                    clear hd hlt h48
                    go_wp2
                    refine bodyPost_ret (v := .tuple #[.int .i64 0, .bool false]) (by simp [results, Tryz.results39, go_sem]) rfl ⟨by rw [HQ.out], rfl⟩
              · have hkm : k = m := by omega
                subst hkm
                have hlt' : ¬ (k : Int) < (k : Int) := by omega
                have htk : d.take k = d := List.take_of_length_le (by rw [HM.out]; exact Nat.le_refl _)
                rw [htk] at hdig hvk ⊢
                have hcan : Canon d := ⟨HNE.out, hdig.out, HCAN.out⟩
                have hval := hvk.out
                clear hdig hvk htk
                by_cases hV : val d = 9223372036854775808
                · have HQ := hide (readV_none (s := s) ((noNum (ng := false) (d := d) (fun _ _ h => by have := h rfl; omega)).no s (fun h => by cases h) (fun _ => ⟨HS.out, H45.out⟩)))
                  have qV : (-((val d : Nat) : Int)) = -9223372036854775808 := by omega
                  generalize (-((val d : Nat) : Int)) = V at qV ⊢
                  clear hcan hval
                  subst qV
                  go_wp2
                  refine bodyPost_ret (v := .tuple #[.int .i64 0, .bool false]) (by simp [results, Tryz.results39, go_sem]) rfl ⟨by rw [HQ.out], rfl⟩
                · have HQ := hide (readV_some (num_pos HS.out hcan (by omega)))
                  have qV : ¬ (-((val d : Nat) : Int)) = -9223372036854775808 := by omega
                  have hb : val d ≤ 9223372036854775807 := by omega
                  clear hcan hval hV
                  generalize val d = V at qV HQ hb ⊢
                  go_wp2
                  refine bodyPost_ret (v := .tuple #[.int .i64 (V : Int), .bool true]) (by simp [results, Tryz.results39, go_sem]) rfl ⟨by rw [HQ.out], rfl⟩
end Go.Proofs.YtfnloomcianbiaaGreatDoor
