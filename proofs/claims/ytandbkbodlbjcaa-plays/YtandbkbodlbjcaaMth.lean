/- A table's methods: New, Len, Add, Next, Back, Steal, End. -/
import Derived.Test.YtandbkbodlbjcaaTab
namespace Go.Proofs.Ytandbkbodlbjcaa
open Go.RowKit Go.ChangeShapes Go.WideShapes Go.ChangeAt Go.Deep Go.Maps Go.Sort

def Tb.new (m : Int) : Tb := ⟨[], [], [], [], m, 0⟩
theorem new_any (m : Int) (w : World) : Calls Try.prog 8 #[.int .i64 m] w fun e w' => e = .returned (.pointer (some ⟨w.heap.size, 0, none⟩)) ∧ TabM (paint (fun _ => none) w.heap.size .box) w' w.heap.size (Tb.new m) ∧ Below w.heap.size w w' := by
  have hB := BoxL.new w [.slice none 0 0, .map none, .map none, .map none, .int .i64 m] 59
  have HB := hide hB
  have HW := hide (below_new w (.cells #[.slice none 0 0, .map none, .map none, .map none, .int .i64 m] 59))
  clear hB
  go_enter Try.func8, Try.ntmps8
  go_wp2
  go_ret
  refine ⟨rfl, ⟨fun k hk => ?_, paint_at _ _ _, _, _, _, _, HB.out, ⟨none, 0, 0, rfl, RN.nil _, fun k hk => by simp [blk] at hk, fun x hx => by cases hx⟩, ⟨SetM.nil _, fun k hk => by cases hk⟩, ⟨fun q hq => (by cases hq), .inl ⟨rfl, rfl⟩⟩, ⟨SetM.nil _, fun k hk => by cases hk⟩⟩, HW.out⟩
  by_cases e : k = w.heap.size
  · subst e; simp
  · rw [paint_other e] at hk; exact absurd rfl hk

theorem wpList_len_nil {P : Program} (w : World) {ops : Array Oper} {rest : List Oper} {o : Oper} {a : Act} {Q : Exit → Act → World → Prop} (hg : o.guard = none) (m : Operand) (t : TypeId) (hop : o.op = Op.call { callee := Callee.builtin Builtin.len, args := #[m], argTypes := #[t] })
    (k e : TypeId) (ht : P.underlying t = some (.map k e)) (hm : a.eval m = .map none) (hK : wpList P ops Q rest (a.put o.dst (.int .i64 0)) w) : wpList P ops Q (o :: rest) a w := by
  refine wpList_plain hg fun K' hK' => ?_
  unfold Oper.wp
  simp [execOp, hop, resolve, invoke, builtin, hm, Maps.len_nil ht o.type, Result.andThen]
  exact hK' _ _ hK
theorem len_any {κ : Cl} {w : World} {cb : Nat} {T : Tb} (h : TabM κ w cb T) : Calls Try.prog 31 #[.pointer (some ⟨cb, 0, none⟩)] w fun e w' => e = .returned (.int .i64 (T.al.length : Nat)) ∧ w' = w := by
  obtain ⟨h1, h2, vr, vg, vp, va, h3, h4, h5, h6, ⟨h7, _⟩⟩ := h
  have c3 := (h3.at (o := 3) rfl).1
  rcases h7.2.2 with ⟨rfl, e⟩ | ⟨b, D, rfl, ho, hh, hz⟩
  · rw [e]
    clear h3 h4 h5 h6 h7
    go_enter Try.func31, Try.ntmps31
    go_wp2_with (at_len; refine wpList_len_nil _ rfl _ 50 rfl 31 78 Try.underlying50 rfl ?_)
    go_ret
    exact ⟨rfl, rfl⟩
  · have HZ := hide hz
    clear h3 h4 h5 h6 h7 hz
    go_enter Try.func31, Try.ntmps31
    go_wp2_with (at_len; refine wpList_len_own _ rfl _ 50 rfl 31 78 Try.underlying50 _ b _ D rfl ho ?_)
    go_ret
    refine ⟨?_, rfl⟩
    show Ending.returned (.int .i64 (Maps.size D : Nat)) = _
    rw [HZ.out]

theorem belowN {B : Nat} {w w' : World} (h : Below B w w') (q : Nat) : Below B w (w'.drewN q) := ⟨h.os, h.tape, h.output, h.size, h.block⟩
/-- Add, plain. -/
def addT (T : Tb) (x : ByteArray) : Int × Tb :=
  if validL x.data.toList = false ∨ inB T.al x = true then (1, T) else if T.mx ≤ (T.al.length : Int) ∧ 1 ≤ T.al.length then (31, T) else (0, { T with al := x :: T.al, rdy := T.rdy ++ [x] })
def AddPost (κ : Cl) (w : World) (cb : Nat) (T : Tb) (x : ByteArray) (e : Ending) (w' : World) : Prop := e = .returned (.int .i64 (addT T x).1) ∧ ∃ κ', TabM κ' w' cb (addT T x).2 ∧ Stp κ κ' w w'

theorem TabM.drew {κ : Cl} {w : World} {cb : Nat} {T : Tb} (h : TabM κ w cb T) : TabM κ w.drew cb T := h.keep (Nat.le_refl _) (fun _ _ _ => rfl)
theorem Stp.undrew {κ κ' : Cl} {w w' : World} (h : Stp κ κ' w.drew w') : Stp κ κ' w w' := ⟨⟨h.kp.os, h.kp.tape, h.kp.output, h.kp.size, h.kp.block⟩, h.col⟩
theorem valid_size {x : ByteArray} (h : validL x.data.toList = true) : x.size ≤ 12 := by
  rw [Lib.size_eq]; exact (valid_iff.1 h).1

set_option maxRecDepth 100000 in
set_option maxHeartbeats 2000000 in
theorem add_any {κ : Cl} {w : World} {cb : Nat} {T : Tb} (h : TabM κ w cb T) (x : ByteArray) (hx : x.size ≤ 1000000) (hl : T.al.length ≤ 100000) (hl2 : T.rdy.length ≤ 100000) :
    Calls Try.prog 11 #[.pointer (some ⟨cb, 0, none⟩), .string x] w (AddPost κ w cb T x) := by
  have C33 := hide (fun w => valid_any x (by unfold maxLen; omega) w)
  have C34 := hide (tab_has h x (by omega))
  have c4 : w.cell? ⟨cb, 4, none⟩ = some (.int .i64 T.mx) := by
    obtain ⟨h1, h2, vr, vg, vp, va, h3, h4, h5, h6, h7⟩ := h
    exact (h3.at (o := 4) rfl).1
  by_cases hv : validL x.data.toList = true
  · have hx12 := valid_size hv
    rw [hv] at C33
    by_cases hq : inB T.al x = true
    · have HP := hide (show addT T x = (1, T) by unfold addT; rw [if_pos (.inr hq)])
      rw [hq] at C34
      have HT := hide h
      clear h hl hl2
      go_enter Try.func11, Try.ntmps11
      go_wp2_with (first
        | (go_at_call 33; go_must ((with_reducible refine (C33.out _).mono ?_); rintro e w1 ⟨rfl, rfl⟩))
        | (go_at_call 34; go_must ((with_reducible refine C34.out.mono ?_); rintro e w2 ⟨rfl, hb2⟩; have HB := hide hb2; clear hb2)))
      go_ret
      unfold AddPost
      rw [HP.out]
      exact ⟨rfl, κ, HT.out.below HB.out, Stp.ofB HB.out⟩
    · have hq' : inB T.al x = false := by simpa using hq
      rw [hq'] at C34
      have C31 := hide (fun w2 (hb : Below w.heap.size w w2) => len_any (h.below hb))
      have hk4 := hide (fun w2 (hb : Below w.heap.size w w2) => keep_cell c4 hb)
      by_cases hf : T.mx ≤ (T.al.length : Int) ∧ 1 ≤ T.al.length
      · have HP := hide (show addT T x = (31, T) by unfold addT; rw [if_neg (by rw [hv, hq']; simp), if_pos hf])
        have hm : max 1 T.mx ≤ (T.al.length : Int) := by omega
        have HT := hide h
        obtain ⟨n, hn⟩ : ∃ n, n = T.al.length := ⟨_, rfl⟩
        rw [← hn] at hm C31
        clear h hl hl2 hf hn hq
        go_enter Try.func11, Try.ntmps11
        go_wp2_with (first
          | (go_at_call 33; go_must ((with_reducible refine (C33.out _).mono ?_); rintro e w1 ⟨rfl, rfl⟩))
          | (go_at_call 34; go_must ((with_reducible refine C34.out.mono ?_); rintro e w2 ⟨rfl, hb2⟩; have HB := hide hb2; have c4' := hk4.out _ hb2; clear hb2 c4)))
        have C31q := fun q => C31.out _ (belowN HB.out q)
        go_big_quiet (first | (go_at_call 31; with_reducible exact Calls.quiet_of_same (C31q _)))
        go_wp2
        go_ret
        unfold AddPost
        rw [HP.out]
        exact ⟨rfl, κ, HT.out.below (belowN HB.out _), Stp.ofB (belowN HB.out _)⟩
      · have HP := hide (show addT T x = (0, { T with al := x :: T.al, rdy := T.rdy ++ [x] }) by unfold addT; rw [if_neg (by rw [hv, hq']; simp), if_neg hf])
        have hm : ¬ max 1 T.mx ≤ (T.al.length : Int) := by omega
        have HT := hide h
        have HN := hide (inB_no.1 hq')
        have HX := hide hx12
        obtain ⟨n, hn⟩ : ∃ n, n = T.al.length := ⟨_, rfl⟩
        rw [← hn] at hm C31
        have HL := hide hl
        have HL2 := hide hl2
        have CA := hide (fun w => tapart_any x (by omega) w)
        clear h hl hl2 hf hn hq hx12
        go_enter Try.func11, Try.ntmps11
        go_wp2_with (first
          | (go_at_call 33; go_must ((with_reducible refine (C33.out _).mono ?_); rintro e w1 ⟨rfl, rfl⟩))
          | (go_at_call 34; go_must ((with_reducible refine C34.out.mono ?_); rintro e w2 ⟨rfl, hb2⟩; have HB := hide hb2; have c4' := hk4.out _ hb2; clear hb2 c4)))
        have C31q := fun q => C31.out _ (belowN HB.out q)
        go_big_quiet (first | (go_at_call 31; with_reducible exact Calls.quiet_of_same (C31q _)))
        clear c4'
        go_upto_region 6 with fail
        have HBV := hide (belowN HB.out nq)
        generalize w2.drewN nq = V at HBV ⊢
        have HTV := hide (HT.out.below HBV.out)
        clear HB
        go_region_held3 (fun _ => True) (exact True.intro) (first
          | (go_at_call 36; (with_reducible refine (CA.out _).mono ?_); rintro e w3 ⟨rfl, hb3⟩; have HT3 := hide (HTV.out.drew.below hb3); have HB3 := hide (below_undrew hb3); clear hb3)
          | (go_at_call 35; (with_reducible refine (tab_put HT3.out x HX.out HN.out HL.out).mono ?_); rintro e w4 ⟨rfl, κ4, hT4, hS4⟩; have HT4 := hide hT4; have HS4 := hide hS4; clear hT4 hS4))
        go_upto_region 7 with fail
        go_region_held3 (fun _ => True) (exact True.intro) (first
          | (go_at_call 36; (with_reducible refine (CA.out _).mono ?_); rintro e w5 ⟨rfl, hb5⟩; have HT5 := hide (HT4.out.drew.below hb5); have HB5 := hide (below_undrew hb5); clear hb5)
          | (go_at_call 37; (with_reducible refine (tab_line HT5.out x HX.out HL2.out).mono ?_); rintro e w6 ⟨rfl, κ6, hT6, hS6⟩; have HT6 := hide hT6; have HS6 := hide hS6; clear hT6 hS6))
        go_wp2
        go_ret
        unfold AddPost
        rw [HP.out]
        exact ⟨rfl, κ6, HT6.out, ((Stp.ofB HBV.out).trans ((Stp.ofB HB3.out).trans HS4.out)).trans ((Stp.ofB HB5.out).trans HS6.out)⟩
  · have hv' : validL x.data.toList = false := by simpa using hv
    have HP := hide (show addT T x = (1, T) by unfold addT; rw [if_pos (.inl hv')])
    rw [hv'] at C33
    have HT := hide h
    clear h hl hl2
    go_enter Try.func11, Try.ntmps11
    go_wp2_with (go_at_call 33; go_must ((with_reducible refine (C33.out _).mono ?_); rintro e w1 ⟨rfl, rfl⟩))
    go_ret
    unfold AddPost
    rw [HP.out]
    exact ⟨rfl, κ, HT.out, Stp.refl _ _⟩
end Go.Proofs.Ytandbkbodlbjcaa
