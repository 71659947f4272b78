/- A table's methods: Next, Back, Steal, End. -/
import Derived.Test.YtandbkbodlbjcaaMth
namespace Go.Proofs.Ytandbkbodlbjcaa
open Go.RowKit Go.ChangeShapes Go.WideShapes Go.ChangeAt Go.Deep Go.Maps Go.Sort

theorem Kp.undrewN {D : Nat → Prop} {w w' : World} {q : Nat} (h : Kp D (w.drewN q) w') : Kp D w w' := ⟨h.os, h.tape, h.output, h.size, h.block⟩
theorem TabM.drewN {κ : Cl} {w : World} {cb : Nat} {T : Tb} (h : TabM κ w cb T) (q : Nat) : TabM κ (w.drewN q) cb T := h.keep (Nat.le_refl _) (fun _ _ _ => rfl)

/-- Next's answer. -/
def NextPost (κ : Cl) (w : World) (cb : Nat) (T : Tb) (e : Ending) (w' : World) : Prop :=
  (T.rdy = [] ∧ e = .returned (.tuple #[.string ⟨#[]⟩, .bool false]) ∧ w' = w) ∨
    ∃ L x, T.rdy = L ++ [x] ∧ x.size ≤ 12 ∧ e = .returned (.tuple #[.string x, .bool true]) ∧ ∃ κ', TabM κ' w' cb { T with rdy := L, goi := x :: T.goi } ∧ Stp κ κ' w w'

set_option maxRecDepth 100000 in
set_option maxHeartbeats 2000000 in
theorem next_any {κ : Cl} {w : World} {cb : Nat} {T : Tb} (h : TabM κ w cb T) (hl : T.rdy.length ≤ 100000) (hg : T.goi.length ≤ 100000) (hn : ∀ x ∈ T.rdy, x ∉ T.goi) :
    Calls Try.prog 13 #[.pointer (some ⟨cb, 0, none⟩)] w (NextPost κ w cb T) := by
  have C := tab_newest h hl
  rcases T.rdy.eq_nil_or_concat with he | ⟨L0, y, hLy⟩
  · have HE := hide he
    have C40 : Calls Try.prog 40 #[.pointer (some ⟨cb, 0, none⟩)] w fun e w' => e = .returned (.tuple #[.string ⟨#[]⟩, .bool false]) ∧ w' = w := C.mono (by
      rintro e w' (⟨_, h2, h3⟩ | ⟨L, x, e1, _⟩)
      · exact ⟨h2, h3⟩
      · rw [he] at e1; simp at e1)
    clear C h hl hg hn he
    go_enter Try.func13, Try.ntmps13
    go_wp2_with (go_at_call 40; go_must ((with_reducible refine C40.mono ?_); rintro e w1 ⟨rfl, rfl⟩))
    go_ret2
    unfold NextPost
    exact .inl ⟨HE.out, rfl, rfl⟩
  · rw [List.concat_eq_append] at hLy
    have C40 : Calls Try.prog 40 #[.pointer (some ⟨cb, 0, none⟩)] w fun e w' => e = .returned (.tuple #[.string y, .bool true]) ∧ TabM κ w' cb { T with rdy := L0 } ∧ Stp κ κ w w' ∧ y.size ≤ 12 := C.mono (by
      rintro e w' (⟨e1, _⟩ | ⟨L, x, e1, h2, h3, h4, h5⟩)
      · rw [hLy] at e1; simp at e1
      · rw [hLy] at e1
        obtain ⟨rfl, e2⟩ := List.append_inj' e1 rfl
        simp only [List.cons.injEq, and_true] at e2
        subst e2
        exact ⟨h3, h4, h5, h2⟩)
    have HN := hide (hn y (by rw [hLy]; simp))
    have HG := hide hg
    have HL := hide hLy
    clear C h hl hg hn hLy
    go_enter Try.func13, Try.ntmps13
    go_upto_region 3 with (go_at_call 40; go_must ((with_reducible refine C40.mono ?_); rintro e w1 ⟨rfl, hT1, hS1, hy12⟩; have HT1 := hide hT1; have HS1 := hide hS1; have HY := hide hy12; clear hT1 hS1 hy12))
    have CA := hide (fun w => tapart_any y (by have := HY.out; omega) w)
    go_region_held3 (fun _ => True) (exact True.intro) (first
      | (go_at_call 36; (with_reducible refine (CA.out _).mono ?_); rintro e w3 ⟨rfl, hb3⟩; have HT3 := hide (HT1.out.drew.below hb3); have HB3 := hide (below_undrew hb3); clear hb3)
      | (go_at_call 41; (with_reducible refine (tab_start HT3.out y HY.out HN.out HG.out).mono ?_); rintro e w4 ⟨rfl, κ4, hT4, hS4⟩; have HT4 := hide hT4; have HS4 := hide hS4; clear hT4 hS4))
    go_wp2
    go_ret2
    unfold NextPost
    exact .inr ⟨L0, y, HL.out, HY.out, rfl, κ4, HT4.out, HS1.out.trans ((Stp.ofB HB3.out).trans HS4.out)⟩

/-- Steal's answer. -/
def StealPost (κ : Cl) (w : World) (cb : Nat) (T : Tb) (e : Ending) (w' : World) : Prop :=
  (T.rdy = [] ∧ e = .returned (.tuple #[.string ⟨#[]⟩, .bool false]) ∧ w' = w) ∨
    ∃ L x, T.rdy = x :: L ∧ x.size ≤ 12 ∧ e = .returned (.tuple #[.string x, .bool true]) ∧ TabM κ w' cb { T with rdy := L, al := del T.al x } ∧ Stp κ κ w w'

set_option maxRecDepth 100000 in
set_option maxHeartbeats 2000000 in
theorem steal_any {κ : Cl} {w : World} {cb : Nat} {T : Tb} (h : TabM κ w cb T) (hl : T.rdy.length ≤ 100000) :
    Calls Try.prog 23 #[.pointer (some ⟨cb, 0, none⟩)] w (StealPost κ w cb T) := by
  have C := tab_oldest h hl
  cases hR : T.rdy with
  | nil =>
    have HE := hide hR
    have C40 : Calls Try.prog 48 #[.pointer (some ⟨cb, 0, none⟩)] w fun e w' => e = .returned (.tuple #[.string ⟨#[]⟩, .bool false]) ∧ w' = w := C.mono (by
      rintro e w' (⟨_, h2, h3⟩ | ⟨L, x, e1, _⟩)
      · exact ⟨h2, h3⟩
      · rw [hR] at e1; simp at e1)
    clear C h hl hR
    go_enter Try.func23, Try.ntmps23
    go_wp2_with (go_at_call 48; go_must ((with_reducible refine C40.mono ?_); rintro e w1 ⟨rfl, rfl⟩))
    go_ret2
    unfold StealPost
    exact .inl ⟨HE.out, rfl, rfl⟩
  | cons y L0 =>
    have C40 : Calls Try.prog 48 #[.pointer (some ⟨cb, 0, none⟩)] w fun e w' => e = .returned (.tuple #[.string y, .bool true]) ∧ TabM κ w' cb { T with rdy := L0 } ∧ Stp κ κ w w' ∧ y.size ≤ 12 := C.mono (by
      rintro e w' (⟨e1, _⟩ | ⟨L, x, e1, h2, h3, h4, h5⟩)
      · rw [hR] at e1; simp at e1
      · rw [hR] at e1
        simp only [List.cons.injEq] at e1
        obtain ⟨rfl, rfl⟩ := e1
        exact ⟨h3, h4, h5, h2⟩)
    have HL := hide hR
    clear C h hl hR
    go_enter Try.func23, Try.ntmps23
    go_wp2_with (first
      | (go_at_call 48; go_must ((with_reducible refine C40.mono ?_); rintro e w1 ⟨rfl, hT1, hS1, hy12⟩; have HT1 := hide hT1; have HS1 := hide hS1; have HY := hide hy12; clear hT1 hS1 hy12))
      | (go_at_call 49; go_must ((with_reducible refine (tab_takeA HT1.out y (by have := HY.out; omega)).mono ?_); rintro e w2 ⟨rfl, hT2, hS2⟩; have HT2 := hide hT2; have HS2 := hide hS2; clear hT2 hS2)))
    go_ret2
    unfold StealPost
    exact .inr ⟨L0, y, HL.out, HY.out, rfl, HT2.out, HS1.out.trans HS2.out⟩

/-- End, plain. -/
def endT (T : Tb) (x : ByteArray) : Bool × Tb := if inB T.goi x = true then (inB T.al x, { T with goi := del T.goi x, al := del T.al x }) else (false, { T with goi := del T.goi x })
set_option maxRecDepth 100000 in
set_option maxHeartbeats 2000000 in
theorem end_any {κ : Cl} {w : World} {cb : Nat} {T : Tb} (h : TabM κ w cb T) (x : ByteArray) (hx : x.size ≤ 1000000) :
    Calls Try.prog 25 #[.pointer (some ⟨cb, 0, none⟩), .string x] w fun e w' => e = .returned (.bool (endT T x).1) ∧ TabM κ w' cb (endT T x).2 ∧ Stp κ κ w w' := by
  have C43 := hide (tab_stop h x hx)
  by_cases hq : inB T.goi x = true
  · have HP := hide (show endT T x = (inB T.al x, { T with goi := del T.goi x, al := del T.al x }) by unfold endT; rw [if_pos hq])
    rw [hq] at C43
    rw [HP.out]
    dsimp only
    clear h hq HP
    generalize hp : inB T.al x = p
    have HPP := hide hp
    clear hp
    go_enter Try.func25, Try.ntmps25
    go_wp2_with (first
      | (go_at_call 43; go_must ((with_reducible refine C43.out.mono ?_); rintro e w1 ⟨rfl, hT1, hS1⟩; have C49 := hide (tab_takeA hT1 x hx); have HS1 := hide hS1; clear hT1 hS1))
      | (go_at_call 49; go_must ((with_reducible refine C49.out.mono ?_); rintro e w2 ⟨rfl, hT2, hS2⟩; have HT2 := hide hT2; have HS2 := hide hS2; clear hT2 hS2)))
    go_ret
    exact ⟨ret_b HPP.out, HT2.out, HS1.out.trans HS2.out⟩
  · have hq' : inB T.goi x = false := by simpa using hq
    have HP := hide (show endT T x = (false, { T with goi := del T.goi x }) by unfold endT; rw [if_neg hq])
    rw [hq'] at C43
    rw [HP.out]
    dsimp only
    clear h hq hq' HP
    go_enter Try.func25, Try.ntmps25
    go_wp2_with (go_at_call 43; go_must ((with_reducible refine C43.out.mono ?_); rintro e w1 ⟨rfl, hT1, hS1⟩; have HT1 := hide hT1; have HS1 := hide hS1; clear hT1 hS1))
    go_ret
    exact ⟨rfl, HT1.out, HS1.out⟩

/-- Back, plain. -/
def backT (T : Tb) (x : ByteArray) : Bool × Tb := if inB T.goi x = true then (true, { T with goi := del T.goi x, rdy := T.rdy ++ [x] }) else (false, { T with goi := del T.goi x })
set_option maxRecDepth 100000 in
set_option maxHeartbeats 2000000 in
theorem back_any {κ : Cl} {w : World} {cb : Nat} {T : Tb} (h : TabM κ w cb T) (x : ByteArray) (hx : x.size ≤ 1000000) (hl : T.rdy.length ≤ 100000) :
    Calls Try.prog 15 #[.pointer (some ⟨cb, 0, none⟩), .string x] w fun e w' => e = .returned (.bool (backT T x).1) ∧ ∃ κ', TabM κ' w' cb (backT T x).2 ∧ Stp κ κ' w w' := by
  have C43 := hide (tab_stop h x hx)
  by_cases hq : inB T.goi x = true
  · have hx12 : x.size ≤ 12 := by
      obtain ⟨h1, h2, vr, vg, vp, va, h3, h4, h5, h6, h7⟩ := h
      exact h5.1.2.1 x (inB_iff.1 hq)
    have HP := hide (show backT T x = (true, { T with goi := del T.goi x, rdy := T.rdy ++ [x] }) by unfold backT; rw [if_pos hq])
    rw [hq] at C43
    have CA := hide (fun w => tapart_any x (by omega) w)
    have HX := hide hx12
    have HL := hide hl
    rw [HP.out]
    dsimp only
    clear h hq HP hl hx12
    go_enter Try.func15, Try.ntmps15
    go_upto_region 3 with (go_at_call 43; go_must ((with_reducible refine C43.out.mono ?_); rintro e w1 ⟨rfl, hT1, hS1⟩; have HT1 := hide hT1; have HS1 := hide hS1; clear hT1 hS1))
    go_region_held3 (fun _ => True) (exact True.intro) (first
      | (go_at_call 36; (with_reducible refine (CA.out _).mono ?_); rintro e w5 ⟨rfl, hb5⟩; have HT5 := hide (HT1.out.drew.below hb5); have HB5 := hide (below_undrew hb5); clear hb5)
      | (go_at_call 37; (with_reducible refine (tab_line HT5.out x HX.out HL.out).mono ?_); rintro e w6 ⟨rfl, κ6, hT6, hS6⟩; have HT6 := hide hT6; have HS6 := hide hS6; clear hT6 hS6))
    go_wp2
    go_ret
    exact ⟨rfl, κ6, HT6.out, HS1.out.trans ((Stp.ofB HB5.out).trans HS6.out)⟩
  · have hq' : inB T.goi x = false := by simpa using hq
    have HP := hide (show backT T x = (false, { T with goi := del T.goi x }) by unfold backT; rw [if_neg hq])
    rw [hq'] at C43
    rw [HP.out]
    dsimp only
    clear h hq hq' HP hl
    go_enter Try.func15, Try.ntmps15
    go_wp2_with (go_at_call 43; go_must ((with_reducible refine C43.out.mono ?_); rintro e w1 ⟨rfl, hT1, hS1⟩; have HT1 := hide hT1; have HS1 := hide hS1; clear hT1 hS1))
    go_ret
    exact ⟨rfl, κ, HT1.out, HS1.out⟩
end Go.Proofs.Ytandbkbodlbjcaa
