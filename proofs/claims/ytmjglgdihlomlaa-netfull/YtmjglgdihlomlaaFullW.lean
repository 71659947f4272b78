/- NetFull answers true. -/
import Derived.Test.YtmjglgdihlomlaaAlv
namespace Go.Proofs.Ytmjglgdihlomlaa
namespace netFull
open Go.RowKit Go.ChangeShapes Go.WideShapes Go.ChangeAt Go.Deep

def pc0 : Pc := (0, 0, [])
/-- So many parcels without anything are on the way. -/
def Many (D : Nat → Prop) (w : World) (cb k : Nat) : Prop := NetP D w cb (List.replicate k pc0)
/-- A row of so many parcels without anything, in a block that is none of the net's. -/
def Row0 (w : World) (g n c : Nat) : Prop := (n ≤ c ∧ c ≤ 100000) ∧ Reads w (some ⟨g, 0, none⟩) (cV (List.replicate n pm0))
theorem Row0.below {w w' : World} {g n c : Nat} (h : Row0 w g n c) (hb : Below w.heap.size w w') : Row0 w' g n c := ⟨h.1, h.2.below hb⟩
theorem Row0.kp {D : Nat → Prop} {w w' : World} {g n c : Nat} (h : Row0 w g n c) (hk : Kp D w w') (hg : ¬ D g) : Row0 w' g n c :=
  ⟨h.1, h.2.keepA (D := fun k => k = g) (fun ad e _ => by cases e; rfl) (fun k e hlt => hk.block k hlt (by rw [e]; exact hg))⟩
theorem Row0.cut {w : World} {g n c k : Nat} (h : Row0 w g n c) (hk : k ≤ n) : Row0 w g k c := by
  refine ⟨⟨by have := h.1.1; omega, h.1.2⟩, ?_⟩
  rcases h.2 with e | ⟨b, off, e, hr⟩
  · have h3 := cV_len (List.replicate n pm0)
    rw [e, List.length_replicate, List.length_nil] at h3
    left
    have h0 : k = 0 := by omega
    rw [h0]; rfl
  · refine .inr ⟨b, off, e, fun j u hu => hr j u ?_⟩
    have e2 : List.replicate n pm0 = List.replicate k pm0 ++ List.replicate (n - k) pm0 := by rw [List.replicate_append_replicate]; congr 1; omega
    rw [e2, cV_app, List.getElem?_append_left (List.getElem?_eq_some_iff.1 hu).1]
    exact hu
theorem map_rep (n : Nat) : (List.replicate n pm0).map Pm.p = List.replicate n pc0 := by rw [List.map_replicate]; rfl
theorem send_rep (D : Nat → Prop) (w : World) (cb k g j c : Nat) (r : Int) (hN : Many D w cb k) (hk : k ≤ 10000) (hR : Row0 w g j c) (hg : ¬ D g) (hr : r = ((min j (10000 - k) : Nat) : Int)) :
    Calls Try.prog 10 #[.pointer (some ⟨cb, 0, none⟩), .slice (some ⟨g, 0, none⟩) j c] w fun e w' => e = .returned (.int .i64 r) ∧ ∃ D' : Nat → Prop, Many D' w' cb (k + min j (10000 - k)) ∧ (∀ q, D' q → D q ∨ w.heap.size ≤ q) ∧ Kp D w w' := by
  refine (send_any D (fun q => q = g) w cb (List.replicate k pc0) (some ⟨g, 0, none⟩) j c (List.replicate j pm0) hN (by rw [List.length_replicate]; exact hk) ⟨List.length_replicate, ⟨hR.1.1, by have := hR.1.2; unfold maxLen; omega⟩, (fun e => by cases e), hR.2, fun ad e _ => by cases e; rfl, fun x hx => ?_⟩ (fun q e h => hg (e ▸ h)) (by have := hR.1; omega) (fun x hx => by rw [List.eq_of_mem_replicate hx]; exact Nat.zero_le _)).mono ?_
  · rw [List.eq_of_mem_replicate hx]; exact (pm0_ok _ _).weak
  · rintro e w' ⟨rfl, h1, h2⟩
    rw [map_rep, List.take_replicate, List.replicate_append_replicate, List.length_replicate, Nat.min_comm] at h1
    refine ⟨?_, _, h1, fun q hq => hq.elim .inl fun h => .inr h.1, h2⟩
    rw [map_rep, List.length_replicate, List.length_replicate, hr]
theorem dup_rep (D : Nat → Prop) (w : World) (cb k : Nat) (hN : Many D w cb k) (hk : k < 10000) (h0 : 0 < k) :
    Calls Try.prog 16 #[.pointer (some ⟨cb, 0, none⟩), .int .i64 0] w fun e w' => e = .returned (.bool true) ∧ ∃ D' : Nat → Prop, Many D' w' cb (k + 1) ∧ (∀ q, D' q → D q ∨ w.heap.size ≤ q) ∧ Kp D w w' := by
  refine (dup_yes D w cb (List.replicate k pc0) 0 hN (by rw [List.length_replicate]; exact h0) (by rw [List.length_replicate]; exact hk)).mono ?_
  rintro e w' ⟨rfl, h1, h2⟩
  rw [List.getElem_replicate, ← List.replicate_succ'] at h1
  exact ⟨rfl, _, h1, fun q hq => hq.elim .inl fun h => .inr h.1, h2⟩
theorem dup_rep_no (D : Nat → Prop) (w : World) (cb k : Nat) (hN : Many D w cb k) (hk : 10000 ≤ k) :
    Calls Try.prog 16 #[.pointer (some ⟨cb, 0, none⟩), .int .i64 0] w fun e w' => e = .returned (.bool false) ∧ ∃ D' : Nat → Prop, Many D' w' cb k ∧ (∀ q, D' q → D q ∨ w.heap.size ≤ q) ∧ Kp D w w' := by
  refine (dup_full D w cb (List.replicate k pc0) 0 hN (by rw [List.length_replicate]; exact hk)).mono ?_
  rintro e w' ⟨rfl, rfl⟩
  exact ⟨rfl, D, hN, fun q hq => .inl hq, Kp.refl _ _⟩
theorem up_or {D D' : Nat → Prop} {B S : Nat} (h : ∀ k, D' k → D k ∨ S ≤ k) (hD : ∀ k, D k → B ≤ k) (hS : B ≤ S) : ∀ k, D' k → B ≤ k := fun k hk => (h k hk).elim (hD k) (Nat.le_trans hS)
theorem not_or {D D' : Nat → Prop} {g S : Nat} (h : ∀ k, D' k → D k ∨ S ≤ k) (hg : ¬ D g) (hS : g < S) : ¬ D' g := fun e => (h g e).elim hg (by omega)

set_option maxRecDepth 100000 in
set_option maxHeartbeats 1000000 in
theorem walk_skip (n m : Int) (w : World) (h : n < 0 ∨ 30 < n ∨ m < 0 ∨ 30 < m) : Calls Try.prog 4 #[.int .i64 n, .int .i64 m] w fun e w' => e = .returned (.bool true) ∧ Below w.heap.size w w' := by
  by_cases h1 : n < 0
  · clear h
    go_enter Try.func4, Try.ntmps4
    go_wp2_with (go_at_call 7; go_must ((with_reducible refine (alive_any w).mono ?_); rintro e w1 ⟨rfl, hb1⟩))
    go_ret
    exact ⟨rfl, hb1⟩
  · by_cases h2 : 30 < n
    · clear h
      go_enter Try.func4, Try.ntmps4
      go_wp2_with (go_at_call 7; go_must ((with_reducible refine (alive_any w).mono ?_); rintro e w1 ⟨rfl, hb1⟩))
      go_ret
      exact ⟨rfl, hb1⟩
    · by_cases h3 : m < 0
      · clear h
        go_enter Try.func4, Try.ntmps4
        go_wp2_with (go_at_call 7; go_must ((with_reducible refine (alive_any w).mono ?_); rintro e w1 ⟨rfl, hb1⟩))
        go_ret
        exact ⟨rfl, hb1⟩
      · have h4 : 30 < m := by omega
        clear h
        go_enter Try.func4, Try.ntmps4
        go_wp2_with (go_at_call 7; go_must ((with_reducible refine (alive_any w).mono ?_); rintro e w1 ⟨rfl, hb1⟩))
        go_ret
        exact ⟨rfl, hb1⟩

theorem slice_to0 (w : World) (g n c k : Nat) (hk : k ≤ c) : (Instr.slice 28 (.slice (some ⟨g, 0, none⟩) n c) none (some (.int .i64 (k : Int))) none).run Try.prog w = .ok (.slice (some ⟨g, 0, none⟩) k c) w := slice_to w _ n c k hk

set_option maxRecDepth 100000 in
set_option maxHeartbeats 4000000 in
theorem walk_a (n m : Nat) (w : World) (hn : n ≤ 30) (hm : m ≤ 30) (h1 : n < 10) (h2 : m < 9 - n) :
    Calls Try.prog 4 #[.int .i64 (n : Int), .int .i64 (m : Int)] w fun e w' => e = .returned (.bool true) ∧ Below w.heap.size w w' := by
  obtain ⟨i0, hi, hz0, hz1, hz2⟩ := info_parts Try.info37
  obtain ⟨N, hN⟩ : ∃ N : Nat, N = 9990 := ⟨_, rfl⟩
  have HNN := hide hN
  have C9 := hide (fun W => new_any W)
  have f1 : (n : Int) < 10 := by omega
  have f2 : (m : Int) < 10 - (n : Int) - 1 := by omega
  clear hN
  go_enter Try.func4, Try.ntmps4
  go_wp2_with (first
    | (go_at_call 7; go_must ((with_reducible refine (alive_any w).mono ?_); rintro e w1 ⟨rfl, hb1⟩; have HB1 := hide hb1; clear hb1))
    | (go_at_call 9; go_must ((with_reducible refine (C9.out w1).mono ?_); rintro e w2 ⟨cb, rfl, hN2, hcb, hb2⟩; have HB2 := hide (HB1.out.trans (hb2.mono HB1.out.size)); have HCB := hide (show w.heap.size ≤ cb from Nat.le_trans HB1.out.size hcb); have HN2 := hide hN2; have HCL := hide (hN2.lt cb rfl); clear hN2 hcb hb2))
    | (at_make; go_must (refine wpList_make_full _ rfl (.const (.int .i64 9990)) (.const (.int .i64 9990)) 28 rfl w2.heap.size 37 i0 (.agg #[.int .i64 0, .int .i64 0, .slice none 0 0]) 3 Try.underlying28 hi hz0 hz1 .i64 .i64 _ _ N rfl rfl (by rw [HNN.out]; rfl) (by rw [HNN.out]; rfl) (by rw [hz2, HNN.out]; omega) (by rw [HNN.out]; unfold maxLen; omega) (Nat.le_refl _) ?_; intro w3 ho3 hg3; rw [made3] at ho3; have hb3 : Below w2.heap.size w2 w3 := (Below.refl _ _).grown hg3 (Nat.le_refl _) (fun k hk => by cases hk); have HB3 := hide (HB2.out.trans (hb3.mono HB2.out.size)); have HR3 := hide (show Row0 w3 w2.heap.size N N from ⟨⟨Nat.le_refl _, by rw [HNN.out]; omega⟩, (rowF_make ho3 (by rw [HNN.out]; unfold maxLen; omega)).1.1.2.2.2.1⟩); have HG3 := hide (ho3.lt w2.heap.size rfl).2; have C10 := hide (send_rep (fun k => k = cb) w3 cb 0 w2.heap.size N N 9990 (HN2.out.below hb3) (by omega) HR3.out (fun e => by have := HCL.out; omega) (by rw [HNN.out]; rfl)); clear ho3 hg3 hb3))
    | (go_at_call 10; ((with_reducible refine C10c.out.mono ?_); rintro e w7 ⟨rfl, D7, hN7, hD7, hK7⟩; have HB7 := hide (HB6.out.trans (hK7.to_below HB6.out.size HD6.out)); clear hN7 hD7 hK7))
    | (go_at_call 10; ((with_reducible refine C10b.out.mono ?_); rintro e w5 ⟨rfl, D5, hN5, hD5, hK5⟩; have HB5 := hide (HB4.out.trans (hK5.to_below HB4.out.size HD4.out)); have HD5 := hide (up_or hD5 HD4.out HB4.out.size); have HG5 := hide (not_or hD5 HG4.out HS4.out); have HR5 := hide (HR4.out.kp hK5 HG4.out); have HS5 := hide (Nat.lt_of_lt_of_le HS4.out hK5.size); have C16 := hide (dup_rep D5 w5 cb _ hN5 (by rw [HNN.out]; omega) (by rw [HNN.out]; omega)); clear hN5 hD5 hK5))
    | (go_at_call 16; go_must ((with_reducible refine C16.out.mono ?_); rintro e w6 ⟨rfl, D6, hN6, hD6, hK6⟩; have HB6 := hide (HB5.out.trans (hK6.to_below HB5.out.size HD5.out)); have HD6 := hide (up_or hD6 HD5.out HB5.out.size); have HG6 := hide (not_or hD6 HG5.out HS5.out); have HR6 := hide (HR5.out.kp hK6 HG5.out); have C10c := hide (send_rep D6 w6 cb _ w2.heap.size m N (m : Int) hN6 (by rw [HNN.out]; omega) (HR6.out.cut (by have := HNN.out; omega)) HG6.out (by rw [HNN.out]; omega)); clear hN6 hD6 hK6))
    | (go_at_call 10; ((with_reducible refine C10.out.mono ?_); rintro e w4 ⟨rfl, D4, hN4, hD4, hK4⟩; have HB4 := hide (HB3.out.trans (hK4.to_below HB3.out.size (fun k hk => by have := HCB.out; omega))); have HD4 := hide (up_or (B := w.heap.size) hD4 (fun k hk => by have := HCB.out; omega) HB3.out.size); have HG4 := hide (not_or hD4 (fun e => by have := HCL.out; omega) HG3.out); have HR4 := hide (HR3.out.kp hK4 (fun e => by have := HCL.out; omega)); have HS4 := hide (Nat.lt_of_lt_of_le HG3.out hK4.size); have ks := (fun W => slice_to0 W w2.heap.size N N n (by have := HNN.out; omega)); have ks2 := (fun W => slice_to0 W w2.heap.size N N m (by have := HNN.out; omega)); have C10b := hide (send_rep D4 w4 cb _ w2.heap.size n N (n : Int) hN4 (by rw [HNN.out]; omega) (HR4.out.cut (by have := HNN.out; omega)) HG4.out (by rw [HNN.out]; omega)); clear hN4 hD4 hK4)))
  go_ret
  exact ⟨rfl, HB7.out⟩

set_option maxRecDepth 100000 in
set_option maxHeartbeats 4000000 in
theorem walk_b (n m : Nat) (w : World) (hn : n ≤ 30) (hm : m ≤ 30) (h1 : n < 10) (h2 : ¬ m < 9 - n) :
    Calls Try.prog 4 #[.int .i64 (n : Int), .int .i64 (m : Int)] w fun e w' => e = .returned (.bool true) ∧ Below w.heap.size w w' := by
  obtain ⟨i0, hi, hz0, hz1, hz2⟩ := info_parts Try.info37
  obtain ⟨N, hN⟩ : ∃ N : Nat, N = 9990 := ⟨_, rfl⟩
  have HNN := hide hN
  have C9 := hide (fun W => new_any W)
  have f1 : (n : Int) < 10 := by omega
  have f2 : ¬ (m : Int) < 10 - (n : Int) - 1 := by omega
  clear hN
  go_enter Try.func4, Try.ntmps4
  go_wp2_with (first
    | (go_at_call 7; go_must ((with_reducible refine (alive_any w).mono ?_); rintro e w1 ⟨rfl, hb1⟩; have HB1 := hide hb1; clear hb1))
    | (go_at_call 9; go_must ((with_reducible refine (C9.out w1).mono ?_); rintro e w2 ⟨cb, rfl, hN2, hcb, hb2⟩; have HB2 := hide (HB1.out.trans (hb2.mono HB1.out.size)); have HCB := hide (show w.heap.size ≤ cb from Nat.le_trans HB1.out.size hcb); have HN2 := hide hN2; have HCL := hide (hN2.lt cb rfl); clear hN2 hcb hb2))
    | (at_make; go_must (refine wpList_make_full _ rfl (.const (.int .i64 9990)) (.const (.int .i64 9990)) 28 rfl w2.heap.size 37 i0 (.agg #[.int .i64 0, .int .i64 0, .slice none 0 0]) 3 Try.underlying28 hi hz0 hz1 .i64 .i64 _ _ N rfl rfl (by rw [HNN.out]; rfl) (by rw [HNN.out]; rfl) (by rw [hz2, HNN.out]; omega) (by rw [HNN.out]; unfold maxLen; omega) (Nat.le_refl _) ?_; intro w3 ho3 hg3; rw [made3] at ho3; have hb3 : Below w2.heap.size w2 w3 := (Below.refl _ _).grown hg3 (Nat.le_refl _) (fun k hk => by cases hk); have HB3 := hide (HB2.out.trans (hb3.mono HB2.out.size)); have HR3 := hide (show Row0 w3 w2.heap.size N N from ⟨⟨Nat.le_refl _, by rw [HNN.out]; omega⟩, (rowF_make ho3 (by rw [HNN.out]; unfold maxLen; omega)).1.1.2.2.2.1⟩); have HG3 := hide (ho3.lt w2.heap.size rfl).2; have C10 := hide (send_rep (fun k => k = cb) w3 cb 0 w2.heap.size N N 9990 (HN2.out.below hb3) (by omega) HR3.out (fun e => by have := HCL.out; omega) (by rw [HNN.out]; rfl)); clear ho3 hg3 hb3))
    | (go_at_call 10; ((with_reducible refine C10c.out.mono ?_); rintro e w7 ⟨rfl, D7, hN7, hD7, hK7⟩; have HB7 := hide (HB6.out.trans (hK7.to_below HB6.out.size HD6.out)); clear hN7 hD7 hK7))
    | (go_at_call 10; ((with_reducible refine C10b.out.mono ?_); rintro e w5 ⟨rfl, D5, hN5, hD5, hK5⟩; have HB5 := hide (HB4.out.trans (hK5.to_below HB4.out.size HD4.out)); have HD5 := hide (up_or hD5 HD4.out HB4.out.size); have HG5 := hide (not_or hD5 HG4.out HS4.out); have HR5 := hide (HR4.out.kp hK5 HG4.out); have HS5 := hide (Nat.lt_of_lt_of_le HS4.out hK5.size); have C16 := hide (dup_rep D5 w5 cb _ hN5 (by rw [HNN.out]; omega) (by rw [HNN.out]; omega)); clear hN5 hD5 hK5))
    | (go_at_call 16; go_must ((with_reducible refine C16.out.mono ?_); rintro e w6 ⟨rfl, D6, hN6, hD6, hK6⟩; have HB6 := hide (HB5.out.trans (hK6.to_below HB5.out.size HD5.out)); have HD6 := hide (up_or hD6 HD5.out HB5.out.size); have HG6 := hide (not_or hD6 HG5.out HS5.out); have HR6 := hide (HR5.out.kp hK6 HG5.out); have C10c := hide (send_rep D6 w6 cb _ w2.heap.size m N (10 - (n : Int) - 1) hN6 (by rw [HNN.out]; omega) (HR6.out.cut (by have := HNN.out; omega)) HG6.out (by rw [HNN.out]; omega)); clear hN6 hD6 hK6))
    | (go_at_call 10; ((with_reducible refine C10.out.mono ?_); rintro e w4 ⟨rfl, D4, hN4, hD4, hK4⟩; have HB4 := hide (HB3.out.trans (hK4.to_below HB3.out.size (fun k hk => by have := HCB.out; omega))); have HD4 := hide (up_or (B := w.heap.size) hD4 (fun k hk => by have := HCB.out; omega) HB3.out.size); have HG4 := hide (not_or hD4 (fun e => by have := HCL.out; omega) HG3.out); have HR4 := hide (HR3.out.kp hK4 (fun e => by have := HCL.out; omega)); have HS4 := hide (Nat.lt_of_lt_of_le HG3.out hK4.size); have ks := (fun W => slice_to0 W w2.heap.size N N n (by have := HNN.out; omega)); have ks2 := (fun W => slice_to0 W w2.heap.size N N m (by have := HNN.out; omega)); have C10b := hide (send_rep D4 w4 cb _ w2.heap.size n N (n : Int) hN4 (by rw [HNN.out]; omega) (HR4.out.cut (by have := HNN.out; omega)) HG4.out (by rw [HNN.out]; omega)); clear hN4 hD4 hK4)))
  go_ret
  exact ⟨rfl, HB7.out⟩

set_option maxRecDepth 100000 in
set_option maxHeartbeats 4000000 in
theorem walk_c (n m : Nat) (w : World) (hn : n ≤ 30) (hm : m ≤ 30) (h1 : n = 10) :
    Calls Try.prog 4 #[.int .i64 (n : Int), .int .i64 (m : Int)] w fun e w' => e = .returned (.bool true) ∧ Below w.heap.size w w' := by
  obtain ⟨i0, hi, hz0, hz1, hz2⟩ := info_parts Try.info37
  obtain ⟨N, hN⟩ : ∃ N : Nat, N = 9990 := ⟨_, rfl⟩
  have HNN := hide hN
  have C9 := hide (fun W => new_any W)
  have H1 := hide h1
  have f1 : ¬ (10 : Int) < (n : Int) := by omega
  have f2 : decide ((n : Int) < 10) = false := by simp; omega
  have f3 : ¬ (m : Int) < 10 - (n : Int) := by omega
  clear h1
  clear hN
  go_enter Try.func4, Try.ntmps4
  go_wp2_with (first
    | (go_at_call 7; go_must ((with_reducible refine (alive_any w).mono ?_); rintro e w1 ⟨rfl, hb1⟩; have HB1 := hide hb1; clear hb1))
    | (go_at_call 9; go_must ((with_reducible refine (C9.out w1).mono ?_); rintro e w2 ⟨cb, rfl, hN2, hcb, hb2⟩; have HB2 := hide (HB1.out.trans (hb2.mono HB1.out.size)); have HCB := hide (show w.heap.size ≤ cb from Nat.le_trans HB1.out.size hcb); have HN2 := hide hN2; have HCL := hide (hN2.lt cb rfl); clear hN2 hcb hb2))
    | (at_make; go_must (refine wpList_make_full _ rfl (.const (.int .i64 9990)) (.const (.int .i64 9990)) 28 rfl w2.heap.size 37 i0 (.agg #[.int .i64 0, .int .i64 0, .slice none 0 0]) 3 Try.underlying28 hi hz0 hz1 .i64 .i64 _ _ N rfl rfl (by rw [HNN.out]; rfl) (by rw [HNN.out]; rfl) (by rw [hz2, HNN.out]; omega) (by rw [HNN.out]; unfold maxLen; omega) (Nat.le_refl _) ?_; intro w3 ho3 hg3; rw [made3] at ho3; have hb3 : Below w2.heap.size w2 w3 := (Below.refl _ _).grown hg3 (Nat.le_refl _) (fun k hk => by cases hk); have HB3 := hide (HB2.out.trans (hb3.mono HB2.out.size)); have HR3 := hide (show Row0 w3 w2.heap.size N N from ⟨⟨Nat.le_refl _, by rw [HNN.out]; omega⟩, (rowF_make ho3 (by rw [HNN.out]; unfold maxLen; omega)).1.1.2.2.2.1⟩); have HG3 := hide (ho3.lt w2.heap.size rfl).2; have C10 := hide (send_rep (fun k => k = cb) w3 cb 0 w2.heap.size N N 9990 (HN2.out.below hb3) (by omega) HR3.out (fun e => by have := HCL.out; omega) (by rw [HNN.out]; rfl)); clear ho3 hg3 hb3))
    | (go_at_call 10; ((with_reducible refine C10c.out.mono ?_); rintro e w7 ⟨rfl, D7, hN7, hD7, hK7⟩; have HB7 := hide (HB6.out.trans (hK7.to_below HB6.out.size HD6.out)); clear hN7 hD7 hK7))
    | (go_at_call 10; ((with_reducible refine C10b.out.mono ?_); rintro e w5 ⟨rfl, D5, hN5, hD5, hK5⟩; have HB5 := hide (HB4.out.trans (hK5.to_below HB4.out.size HD4.out)); have HD5 := hide (up_or hD5 HD4.out HB4.out.size); have HG5 := hide (not_or hD5 HG4.out HS4.out); have HR5 := hide (HR4.out.kp hK5 HG4.out); have HS5 := hide (Nat.lt_of_lt_of_le HS4.out hK5.size); have C16 := hide (dup_rep_no D5 w5 cb _ hN5 (by rw [HNN.out]; have := H1.out; omega)); clear hN5 hD5 hK5))
    | (go_at_call 16; go_must ((with_reducible refine C16.out.mono ?_); rintro e w6 ⟨rfl, D6, hN6, hD6, hK6⟩; have HB6 := hide (HB5.out.trans (hK6.to_below HB5.out.size HD5.out)); have HD6 := hide (up_or hD6 HD5.out HB5.out.size); have HG6 := hide (not_or hD6 HG5.out HS5.out); have HR6 := hide (HR5.out.kp hK6 HG5.out); have C10c := hide (send_rep D6 w6 cb _ w2.heap.size m N (10 - (n : Int)) hN6 (by rw [HNN.out]; have := H1.out; omega) (HR6.out.cut (by have := HNN.out; omega)) HG6.out (by rw [HNN.out]; have := H1.out; omega)); clear hN6 hD6 hK6))
    | (go_at_call 10; ((with_reducible refine C10.out.mono ?_); rintro e w4 ⟨rfl, D4, hN4, hD4, hK4⟩; have HB4 := hide (HB3.out.trans (hK4.to_below HB3.out.size (fun k hk => by have := HCB.out; omega))); have HD4 := hide (up_or (B := w.heap.size) hD4 (fun k hk => by have := HCB.out; omega) HB3.out.size); have HG4 := hide (not_or hD4 (fun e => by have := HCL.out; omega) HG3.out); have HR4 := hide (HR3.out.kp hK4 (fun e => by have := HCL.out; omega)); have HS4 := hide (Nat.lt_of_lt_of_le HG3.out hK4.size); have ks := (fun W => slice_to0 W w2.heap.size N N n (by have := HNN.out; omega)); have ks2 := (fun W => slice_to0 W w2.heap.size N N m (by have := HNN.out; omega)); have C10b := hide (send_rep D4 w4 cb _ w2.heap.size n N (n : Int) hN4 (by rw [HNN.out]; omega) (HR4.out.cut (by have := HNN.out; omega)) HG4.out (by rw [HNN.out]; have := H1.out; omega)); clear hN4 hD4 hK4)))
  go_ret
  exact ⟨rfl, HB7.out⟩

set_option maxRecDepth 100000 in
set_option maxHeartbeats 4000000 in
theorem walk_d (n m : Nat) (w : World) (hn : n ≤ 30) (hm : m ≤ 30) (h1 : 10 < n) :
    Calls Try.prog 4 #[.int .i64 (n : Int), .int .i64 (m : Int)] w fun e w' => e = .returned (.bool true) ∧ Below w.heap.size w w' := by
  obtain ⟨i0, hi, hz0, hz1, hz2⟩ := info_parts Try.info37
  obtain ⟨N, hN⟩ : ∃ N : Nat, N = 9990 := ⟨_, rfl⟩
  have HNN := hide hN
  have C9 := hide (fun W => new_any W)
  have f1 : (10 : Int) < (n : Int) := by omega
  have f2 : decide ((n : Int) < 10) = false := by simp; omega
  clear hN
  go_enter Try.func4, Try.ntmps4
  go_wp2_with (first
    | (go_at_call 7; go_must ((with_reducible refine (alive_any w).mono ?_); rintro e w1 ⟨rfl, hb1⟩; have HB1 := hide hb1; clear hb1))
    | (go_at_call 9; go_must ((with_reducible refine (C9.out w1).mono ?_); rintro e w2 ⟨cb, rfl, hN2, hcb, hb2⟩; have HB2 := hide (HB1.out.trans (hb2.mono HB1.out.size)); have HCB := hide (show w.heap.size ≤ cb from Nat.le_trans HB1.out.size hcb); have HN2 := hide hN2; have HCL := hide (hN2.lt cb rfl); clear hN2 hcb hb2))
    | (at_make; go_must (refine wpList_make_full _ rfl (.const (.int .i64 9990)) (.const (.int .i64 9990)) 28 rfl w2.heap.size 37 i0 (.agg #[.int .i64 0, .int .i64 0, .slice none 0 0]) 3 Try.underlying28 hi hz0 hz1 .i64 .i64 _ _ N rfl rfl (by rw [HNN.out]; rfl) (by rw [HNN.out]; rfl) (by rw [hz2, HNN.out]; omega) (by rw [HNN.out]; unfold maxLen; omega) (Nat.le_refl _) ?_; intro w3 ho3 hg3; rw [made3] at ho3; have hb3 : Below w2.heap.size w2 w3 := (Below.refl _ _).grown hg3 (Nat.le_refl _) (fun k hk => by cases hk); have HB3 := hide (HB2.out.trans (hb3.mono HB2.out.size)); have HR3 := hide (show Row0 w3 w2.heap.size N N from ⟨⟨Nat.le_refl _, by rw [HNN.out]; omega⟩, (rowF_make ho3 (by rw [HNN.out]; unfold maxLen; omega)).1.1.2.2.2.1⟩); have HG3 := hide (ho3.lt w2.heap.size rfl).2; have C10 := hide (send_rep (fun k => k = cb) w3 cb 0 w2.heap.size N N 9990 (HN2.out.below hb3) (by omega) HR3.out (fun e => by have := HCL.out; omega) (by rw [HNN.out]; rfl)); clear ho3 hg3 hb3))
    | (go_at_call 10; ((with_reducible refine C10c.out.mono ?_); rintro e w7 ⟨rfl, D7, hN7, hD7, hK7⟩; have HB7 := hide (HB6.out.trans (hK7.to_below HB6.out.size HD6.out)); clear hN7 hD7 hK7))
    | (go_at_call 10; ((with_reducible refine C10b.out.mono ?_); rintro e w5 ⟨rfl, D5, hN5, hD5, hK5⟩; have HB5 := hide (HB4.out.trans (hK5.to_below HB4.out.size HD4.out)); have HD5 := hide (up_or hD5 HD4.out HB4.out.size); have HG5 := hide (not_or hD5 HG4.out HS4.out); have HR5 := hide (HR4.out.kp hK5 HG4.out); have HS5 := hide (Nat.lt_of_lt_of_le HS4.out hK5.size); have C16 := hide (dup_rep_no D5 w5 cb _ hN5 (by rw [HNN.out]; omega)); clear hN5 hD5 hK5))
    | (go_at_call 16; go_must ((with_reducible refine C16.out.mono ?_); rintro e w6 ⟨rfl, D6, hN6, hD6, hK6⟩; have HB6 := hide (HB5.out.trans (hK6.to_below HB5.out.size HD5.out)); have HD6 := hide (up_or hD6 HD5.out HB5.out.size); have HG6 := hide (not_or hD6 HG5.out HS5.out); have HR6 := hide (HR5.out.kp hK6 HG5.out); have C10c := hide (send_rep D6 w6 cb _ w2.heap.size m N 0 hN6 (by rw [HNN.out]; omega) (HR6.out.cut (by have := HNN.out; omega)) HG6.out (by rw [HNN.out]; omega)); clear hN6 hD6 hK6))
    | (go_at_call 10; ((with_reducible refine C10.out.mono ?_); rintro e w4 ⟨rfl, D4, hN4, hD4, hK4⟩; have HB4 := hide (HB3.out.trans (hK4.to_below HB3.out.size (fun k hk => by have := HCB.out; omega))); have HD4 := hide (up_or (B := w.heap.size) hD4 (fun k hk => by have := HCB.out; omega) HB3.out.size); have HG4 := hide (not_or hD4 (fun e => by have := HCL.out; omega) HG3.out); have HR4 := hide (HR3.out.kp hK4 (fun e => by have := HCL.out; omega)); have HS4 := hide (Nat.lt_of_lt_of_le HG3.out hK4.size); have ks := (fun W => slice_to0 W w2.heap.size N N n (by have := HNN.out; omega)); have ks2 := (fun W => slice_to0 W w2.heap.size N N m (by have := HNN.out; omega)); have C10b := hide (send_rep D4 w4 cb _ w2.heap.size n N 10 hN4 (by rw [HNN.out]; omega) (HR4.out.cut (by have := HNN.out; omega)) HG4.out (by rw [HNN.out]; omega)); clear hN4 hD4 hK4)))
  go_ret
  exact ⟨rfl, HB7.out⟩

/-- NetFull answers true for every input. -/
theorem walk (n m : Int) (w : World) (_hn : -9223372036854775808 ≤ n ∧ n ≤ 9223372036854775807) (_hm : -9223372036854775808 ≤ m ∧ m ≤ 9223372036854775807) : Calls Try.prog 4 #[.int .i64 n, .int .i64 m] w fun e w' => e = .returned (.bool true) ∧ Below w.heap.size w w' := by
  by_cases h : n < 0 ∨ 30 < n ∨ m < 0 ∨ 30 < m
  · exact walk_skip n m w h
  · obtain ⟨a, rfl⟩ : ∃ a : Nat, n = (a : Int) := ⟨n.toNat, by omega⟩
    obtain ⟨b, rfl⟩ : ∃ b : Nat, m = (b : Int) := ⟨m.toNat, by omega⟩
    by_cases h1 : a < 10
    · by_cases h2 : b < 9 - a
      · exact walk_a a b w (by omega) (by omega) h1 h2
      · exact walk_b a b w (by omega) (by omega) h1 h2
    · by_cases h2 : a = 10
      · exact walk_c a b w (by omega) (by omega) h2
      · exact walk_d a b w (by omega) (by omega) (by omega)
end netFull
end Go.Proofs.Ytmjglgdihlomlaa
