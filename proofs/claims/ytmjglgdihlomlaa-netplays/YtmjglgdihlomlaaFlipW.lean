/- NetFlips answers true. -/
import Derived.Test.YtmjglgdihlomlaaAlv
namespace Go.Proofs.Ytmjglgdihlomlaa
namespace netFlips
open Go.RowKit Go.ChangeShapes Go.WideShapes Go.ChangeAt Go.Deep

theorem flip_len (bs : List Nat) (d : Nat) : (flipL bs d).length = bs.length := by simp [flipL]
theorem flip_twice (bs : List Nat) (d : Nat) : flipL (flipL bs d) d = bs := by
  unfold flipL
  by_cases h : d / 8 < bs.length
  · rw [List.set_set]
    have e : (bs.set (d / 8) (bs.getD (d / 8) 0 ^^^ 2 ^ (d % 8))).getD (d / 8) 0 = bs.getD (d / 8) 0 ^^^ 2 ^ (d % 8) := by simp [List.getD, h]
    rw [e, Nat.xor_assoc, Nat.xor_self, Nat.xor_zero]
    simp [List.getD, h]
  · rw [List.set_eq_of_length_le (by rw [List.length_set]; omega), List.set_eq_of_length_le (by omega)]
theorem flip_ne (bs : List Nat) (d : Nat) (h : d / 8 < bs.length) : flipL bs d ≠ bs := by
  intro e
  have h1 : (flipL bs d)[d / 8]? = bs[d / 8]? := by rw [e]
  unfold flipL at h1
  simp [h, List.getD] at h1
  have h2 : bs[d / 8] ^^^ (bs[d / 8] ^^^ 2 ^ (d % 8)) = bs[d / 8] ^^^ bs[d / 8] := by rw [h1]
  rw [← Nat.xor_assoc, Nat.xor_self, Nat.zero_xor] at h2
  have : 0 < 2 ^ (d % 8) := Nat.pow_pos (by omega)
  omega

theorem bstr_nums {l : List Nat} (h : Byt l) : (bstr l).toList.map (fun (x : UInt8) => x.toNat) = l := by
  rw [ByteArray.toList_eq, bstr, strOfNums_data, List.map_map, List.map_map]
  conv => rhs; rw [← List.map_id l]
  apply List.map_congr_left
  intro x hx
  have := h x hx
  simp
  omega
theorem bstr_eq {a b : List Nat} (ha : Byt a) (hb : Byt b) : ((bstr a).toList == (bstr b).toList) = decide (a = b) := by
  by_cases h : a = b
  · subst h; simp
  · have : (bstr a).toList ≠ (bstr b).toList := fun e => h (by rw [← bstr_nums ha, ← bstr_nums hb, e])
    simp [h, this]

/-- The parcel that is handed in, with the bytes of an argument. -/
theorem send_one (w1 : World) (cb : Nat) (f t : Int) (a : Option Addr) (n c : Nat) (xs : List Nat) (hl : xs.length = n) (hB : Byt xs) (hcap : n ≤ c ∧ c ≤ maxLen) (hnil : a = none → n = 0 ∧ c = 0) (hr : Reads w1 a (bV xs)) (hn : n ≤ 1000000) (D : Nat → Prop) (L : List Pc) (hL : L.length < 10000) (hN : NetP D w1 cb L) (ha : ∀ ad, a = some ad → 0 < n → ¬ D ad.block) :
    Calls Try.prog 10 #[.pointer (some ⟨cb, 0, none⟩), .slice (some ⟨w1.heap.size, 0, none⟩) 1 1] (w1.alloc (.cells #[.int .i64 f, .int .i64 t, .slice a n c] 37)) fun e w' => e = .returned (.int .i64 1) ∧ ∃ D' : Nat → Prop, NetP D' w' cb (L ++ [(f, t, xs)]) ∧ (∀ k, D' k → D k ∨ w1.heap.size ≤ k) ∧ Kp D w1 w' := by
  have hlt := hN.lt
  refine (send_any D (fun k => ¬ D k) _ cb L (some ⟨w1.heap.size, 0, none⟩) 1 1 [⟨(f, t, xs), a, n, c⟩] (hN.below (below_new _ _)) (by omega) ⟨rfl, ⟨Nat.le_refl _, by unfold maxLen; omega⟩, (fun e => by cases e), reads_new w1 (Pm.cs ⟨(f, t, xs), a, n, c⟩) 37, fun ad e _ => by cases e; exact fun h => Nat.lt_irrefl _ (hlt _ h), fun x hx => ?_⟩ (fun k hk e => hk e) (by omega) (by simpa using hn)).mono ?_
  · simp only [List.mem_singleton] at hx
    subst hx
    exact ⟨hl, hB, hcap, hnil, hr.below (below_new _ _), ha⟩
  · rintro e w' ⟨rfl, h1, h2⟩
    have h3 : NetP (Ex D (w1.alloc (.cells #[.int .i64 f, .int .i64 t, .slice a n c] 37)) w') w' cb (L ++ [(f, t, xs)]) := by
      rw [List.take_of_length_le (by simp; omega)] at h1
      exact h1
    refine ⟨?_, _, h3, fun k hk => ?_, (Kp.of_below (below_new _ _)).trans h2⟩
    · congr 2; simp; omega
    · rcases hk with hk | hk
      · exact .inl hk
      · right
        have := hk.1
        simp at this
        omega
theorem below_drewN {B : Nat} {w w' : World} (h : Below B w w') (n : Nat) : Below B w (w'.drewN n) := ⟨h.os, h.tape, h.output, h.size, h.block⟩
theorem below_dn {D : Nat → Prop} {w w6 w7 : World} {q : Nat} (h : Below w.heap.size w w6) (hk : Kp D (w6.drewN q) w7) (hD : ∀ k, D k → w.heap.size ≤ k) : Below w.heap.size w w7 := (below_drewN h q).trans (hk.to_below h.size hD)
theorem up_or {D D' : Nat → Prop} {B S : Nat} (h : ∀ k, D' k → D k ∨ S ≤ k) (hD : ∀ k, D k → B ≤ k) (hS : B ≤ S) : ∀ k, D' k → B ≤ k := fun k hk => (h k hk).elim (hD k) (Nat.le_trans hS)
theorem ex_or {D : Nat → Prop} {w w' : World} {k : Nat} (h : Ex D w w' k) : D k ∨ w.heap.size ≤ k := h.elim .inl fun q => .inr q.1
/-- Flip of the first of two. -/
theorem flip_in (D : Nat → Prop) (w : World) (cb : Nat) (x y : Pc) (d : Nat) (hN : NetP D w cb [x, y]) (hd : d / 8 < x.2.2.length) (hx : x.2.2.length ≤ 1000000) :
    Calls Try.prog 18 #[.pointer (some ⟨cb, 0, none⟩), .int .i64 0, .int .i64 (d : Int)] w fun e w' => e = .returned (.bool true) ∧ ∃ D' : Nat → Prop, NetP D' w' cb [flipP x d, y] ∧ (∀ k, D' k → D k ∨ w.heap.size ≤ k) ∧ Kp D w w' := by
  refine (flip_yes D w cb [x, y] 0 d hN (by simp) hd hx).mono ?_
  rintro e w' ⟨rfl, h1, h2⟩
  exact ⟨rfl, _, h1, fun k hk => ex_or hk, h2⟩
theorem flip_out (D : Nat → Prop) (w : World) (cb : Nat) (x y : Pc) (d : Nat) (hN : NetP D w cb [x, y]) (hd : ¬ d / 8 < x.2.2.length) (hd2 : d ≤ 9223372036854775807) :
    Calls Try.prog 18 #[.pointer (some ⟨cb, 0, none⟩), .int .i64 0, .int .i64 (d : Int)] w fun e w' => e = .returned (.bool false) ∧ ∃ D' : Nat → Prop, NetP D' w' cb [x, y] ∧ (∀ k, D' k → D k ∨ w.heap.size ≤ k) ∧ Kp D w w' := by
  refine (flip_far D w cb [x, y] 0 d hN (by simp) (by simpa using hd) hd2).mono ?_
  rintro e w' ⟨rfl, rfl⟩
  exact ⟨rfl, D, hN, fun k hk => .inl hk, Kp.refl _ _⟩
theorem dup_two (D : Nat → Prop) (w : World) (cb : Nat) (x : Pc) (hN : NetP D w cb [x]) :
    Calls Try.prog 16 #[.pointer (some ⟨cb, 0, none⟩), .int .i64 0] w fun e w' => e = .returned (.bool true) ∧ ∃ D' : Nat → Prop, NetP D' w' cb [x, x] ∧ (∀ k, D' k → D k ∨ w.heap.size ≤ k) ∧ Kp D w w' := by
  refine (dup_yes D w cb [x] 0 hN (by simp) (by simp)).mono ?_
  rintro e w' ⟨rfl, h1, h2⟩
  exact ⟨rfl, _, h1, fun k hk => ex_or hk, h2⟩
/-- What Way answers of two parcels: where their bytes lie, as texts. -/
theorem way_two {w w' : World} {a : Option Addr} {n c : Nat} {l : List Pm} {x y : Pc} (h : RowF w.heap.size w' a n c l) (hl : l.map Pm.p = [x, y]) :
    n = 2 ∧ ∃ g off a0 n0 c0 a1 n1 c1, a = some ⟨g, off, none⟩ ∧ w'.cell? ⟨g, off + 2, none⟩ = some (.slice a0 n0 c0) ∧ w'.cell? ⟨g, off + 3 + 2, none⟩ = some (.slice a1 n1 c1) ∧ (∀ W, W.heap = w'.heap → (convert 35 9 (.slice a0 n0 c0)).run Try.prog W = .ok (.string (bstr x.2.2)) W) ∧ ∀ W, W.heap = w'.heap → (convert 35 9 (.slice a1 n1 c1)).run Try.prog W = .ok (.string (bstr y.2.2)) W := by
  have hlen : l.length = 2 := by rw [← List.length_map (f := Pm.p), hl]; rfl
  obtain ⟨u, v, rfl⟩ : ∃ u v, l = [u, v] := by
    match l, hlen with
    | [u, v], _ => exact ⟨u, v, rfl⟩
  simp only [List.map_cons, List.map_nil, List.cons.injEq, and_true] at hl
  obtain ⟨rfl, rfl⟩ := hl
  obtain ⟨g, off, e, _, _, q2⟩ := h.1.1.at (k := 0) (by simp)
  obtain ⟨g', off', e', _, _, q5⟩ := h.1.1.at (k := 1) (by simp)
  rw [e] at e'
  simp only [Option.some.injEq, Addr.mk.injEq] at e'
  obtain ⟨rfl, rfl, _⟩ := e'
  have ou := h.1.1.2.2.2.2.2 u (by simp)
  have ov := h.1.1.2.2.2.2.2 v (by simp)
  have key : ∀ (z : Pm) (D : Nat → Prop), z.ok D w' → ∀ W : World, W.heap = w'.heap → (convert 35 9 (.slice z.a z.n z.c)).run Try.prog W = .ok (.string (bstr z.p.2.2)) W := fun z D hz W hW => by
    refine run_str rfl hz.1 ?_ z.c
    rcases hz.2.2.2.2.1 with h | ⟨b, o, e, h⟩
    · exact .inl h
    · refine .inr ⟨b, o, e, fun j u hu => ?_⟩
      have := h j u hu
      unfold World.cell? at this ⊢
      rw [hW]; exact this
  exact ⟨h.1.1.1.symm.trans hlen, g, off, _, _, _, _, _, _, e, by simpa using q2, by simpa using q5, key u _ ou, key v _ ov⟩

set_option maxRecDepth 100000 in
set_option maxHeartbeats 1000000 in
theorem walk_skip (a : Option Addr) (n c : Nat) (bit : Int) (w : World) (h : 200 < n ∨ bit < 0) : Calls Try.prog 6 #[.slice a n c, .int .i64 bit] w fun e w' => e = .returned (.bool true) ∧ Below w.heap.size w w' := by
  by_cases hn : 200 < n
  · clear h
    have hn' : (200 : Int) < (n : Int) := by omega
    go_enter Try.func6, Try.ntmps6
    go_wp2_with (go_at_call 7; go_must ((with_reducible refine (alive_any w).mono ?_); rintro e w1 ⟨rfl, hb1⟩))
    go_ret
    exact ⟨rfl, hb1⟩
  · have hb : bit < 0 := by omega
    have hn' : ¬ (200 : Int) < (n : Int) := by omega
    clear h hn
    go_enter Try.func6, Try.ntmps6
    go_wp2_with (go_at_call 7; go_must ((with_reducible refine (alive_any w).mono ?_); rintro e w1 ⟨rfl, hb1⟩))
    go_ret
    exact ⟨rfl, hb1⟩

set_option maxRecDepth 100000 in
set_option maxHeartbeats 4000000 in
theorem walk_out (a : Option Addr) (n c : Nat) (xs : List Nat) (d : Nat) (w : World) (hl : xs.length = n) (hB : Byt xs) (hcap : n ≤ c ∧ c ≤ maxLen) (hnil : a = none → n = 0 ∧ c = 0) (hr : Reads w a (bV xs)) (ha : ∀ ad, a = some ad → 0 < n → ad.block < w.heap.size) (hn : n ≤ 200) (hd2 : d ≤ 9223372036854775807) (hd : ¬ d / 8 < n) :
    Calls Try.prog 6 #[.slice a n c, .int .i64 (d : Int)] w fun e w' => e = .returned (.bool true) ∧ Below w.heap.size w w' := by
  have HR := hide hr
  have HA := hide ha
  have HL := hide hl
  have HBy := hide hB
  have HC := hide hcap
  have HN := hide hnil
  have C9 := hide (fun W => new_any W)
  have hdi : ¬ (d : Int) / 8 < (n : Int) := by omega
  have hdi2 : decide ((d : Int) / 8 < (n : Int)) = false := by simp; omega
  have HD := hide (show ¬ d / 8 < xs.length by rw [hl]; exact hd)
  have hnn : (n : Int) ≤ 200 := by omega
  have HE := hide (bstr_eq (a := xs) (b := xs) hB hB)
  have HD2 := hide hd2
  clear hr ha hl hB hcap hnil hd
  go_enter Try.func6, Try.ntmps6
  go_upto_region 10 with (first
    | (go_at_call 7; go_must ((with_reducible refine (alive_any w).mono ?_); rintro e w1 ⟨rfl, hb1⟩; have HB1 := hide hb1; clear hb1))
    | (go_at_call 9; go_must ((with_reducible refine (C9.out w1).mono ?_); rintro e w2 ⟨cb, rfl, hN2, hcb, hb2⟩; have HB2 := hide (HB1.out.trans (hb2.mono HB1.out.size)); have HCB := hide (show w.heap.size ≤ cb from Nat.le_trans HB1.out.size hcb); have C10 := hide (send_one w2 cb 0 0 a n c xs HL.out HBy.out HC.out HN.out (HR.out.below HB2.out) (by omega) _ [] (by simp) hN2 (fun ad e h0 h => by have := HA.out ad e h0; have := HCB.out; omega)); clear hN2 hcb hb2))
    | (go_at_call 10; go_must ((with_reducible refine C10.out.mono ?_); rintro e w3 ⟨rfl, D3, hN3, hD3, hK3⟩; have HB3 := hide (HB2.out.trans (hK3.to_below HB2.out.size (fun k hk => by have := HCB.out; omega))); have HD3 := hide (up_or (B := w.heap.size) hD3 (fun k hk => by have := HCB.out; omega) HB2.out.size); have C16 := hide (dup_two D3 w3 cb (0, 0, xs) hN3); clear hN3 hD3 hK3))
    | (go_at_call 16; go_must ((with_reducible refine C16.out.mono ?_); rintro e w4 ⟨rfl, D4, hN4, hD4, hK4⟩; have HB4 := hide (HB3.out.trans (hK4.to_below HB3.out.size HD3.out)); have HD4 := hide (up_or hD4 HD3.out HB3.out.size); have C18 := hide (flip_out D4 w4 cb (0, 0, xs) (0, 0, xs) d hN4 HD.out HD2.out); clear hN4 hD4 hK4))
    | (go_at_call 18; go_must ((with_reducible refine C18.out.mono ?_); rintro e w5 ⟨rfl, D5, hN5, hD5, hK5⟩; have HB5 := hide (HB4.out.trans (hK5.to_below HB4.out.size HD4.out)); have HD5 := hide (up_or hD5 HD4.out HB4.out.size); have HN5 := hide hN5; have C22 := hide (way_any D5 w5 cb _ hN5 (by simp) (by simp only [List.mem_cons, List.not_mem_nil, or_false]; rintro p (rfl | rfl) <;> first | (show xs.length ≤ 1000000; rw [HL.out]; omega) | (show (flipL xs d).length ≤ 1000000; rw [flip_len, HL.out]; omega))); clear hN5 hD5 hK5))
    | (go_at_call 22; go_must ((with_reducible refine C22.out.mono ?_); rintro e w6 ⟨a6, n6, c6, l6, rfl, hR6, hl6, hb6⟩; have HB6 := hide (HB5.out.trans (hb6.mono HB5.out.size)); obtain ⟨rfl, g6, o6, a60, n60, c60, a61, n61, c61, rfl, k0, k1, s0, s1⟩ := way_two hR6 hl6; have C18' := hide (fun q => flip_out D5 (w6.drewN q) cb (0, 0, xs) (0, 0, xs) d (show NetP D5 (w6.drewN q) cb _ from HN5.out.below (below_drewN hb6 q)) HD.out HD2.out); clear hR6 hl6 hb6)))
  have t0 := fun k => s0 (w6.drewN k) rfl
  have t1 := fun k => s1 (w6.drewN k) rfl
  have HRb := HR.out.below HB6.out
  have tb := fun k => run_str (S := bstr xs) rfl HL.out (show Reads (w6.drewN k) a (bV xs) from HRb) c
  clear s0 s1
  have e1 : ((bstr xs).toList == (bstr xs).toList) = true := by rw [HE.out]; simp 
  have e2 : ((bstr xs).toList == (bstr xs).toList) = true := by simp
  go_big_quiet (fail)
  go_upto_region 14 with (first
    | (go_at_call 18; go_must ((with_reducible refine (C18'.out _).mono ?_); rintro e w7 ⟨rfl, D7, hN7, hD7, hK7⟩; have HB7 := hide (below_dn HB6.out hK7 HD5.out); have HD7 := hide (up_or hD7 HD5.out HB6.out.size); have C22' := hide (way_any D7 w7 cb _ hN7 (by simp) (by simp only [List.mem_cons, List.not_mem_nil, or_false]; rintro p (rfl | rfl) <;> first | (show xs.length ≤ 1000000; rw [HL.out]; omega) | (show (flipL (flipL xs d) d).length ≤ 1000000; rw [flip_len, flip_len, HL.out]; omega))); clear hN7 hD7 hK7))
    | (go_at_call 22; go_must ((with_reducible refine C22'.out.mono ?_); rintro e w8 ⟨a8, n8, c8, l8, rfl, hR8, hl8, hb8⟩; have HB8 := hide (HB7.out.trans (hb8.mono HB7.out.size)); obtain ⟨rfl, g8, o8, a80, n80, c80, a81, n81, c81, rfl, k0', k1', s0, s1⟩ := way_two hR8 hl8; clear hR8 hl8 hb8)))
  have t0' := fun k => s0 (w8.drewN k) rfl
  have HRb' := HR.out.below HB8.out
  have tb' := fun k => run_str (S := bstr xs) rfl HL.out (show Reads (w8.drewN k) a (bV xs) from HRb') c
  clear s0 s1 HRb HRb' t0 t1 tb k0 k1 k1'
  go_big_quiet (fail)
  go_wp2
  go_ret
  exact ⟨rfl, below_drewN HB8.out _⟩

set_option maxRecDepth 100000 in
set_option maxHeartbeats 4000000 in
theorem walk_in (a : Option Addr) (n c : Nat) (xs : List Nat) (d : Nat) (w : World) (hl : xs.length = n) (hB : Byt xs) (hcap : n ≤ c ∧ c ≤ maxLen) (hnil : a = none → n = 0 ∧ c = 0) (hr : Reads w a (bV xs)) (ha : ∀ ad, a = some ad → 0 < n → ad.block < w.heap.size) (hn : n ≤ 200) (hd2 : d ≤ 9223372036854775807) (hd : d / 8 < n) :
    Calls Try.prog 6 #[.slice a n c, .int .i64 (d : Int)] w fun e w' => e = .returned (.bool true) ∧ Below w.heap.size w w' := by
  have HR := hide hr
  have HA := hide ha
  have HL := hide hl
  have HBy := hide hB
  have HC := hide hcap
  have HN := hide hnil
  have C9 := hide (fun W => new_any W)
  have hdi : (d : Int) / 8 < (n : Int) := by omega
  have hdi2 : decide ((d : Int) / 8 < (n : Int)) = true := by simp; omega
  have HD := hide (show d / 8 < xs.length by rw [hl]; exact hd)
  have hnn : (n : Int) ≤ 200 := by omega
  have HE := hide (bstr_eq (a := (flipL xs d)) (b := xs) (flip_byt hB d (by omega)) hB)
  have HD2 := hide hd2
  clear hr ha hl hB hcap hnil hd
  go_enter Try.func6, Try.ntmps6
  go_upto_region 10 with (first
    | (go_at_call 7; go_must ((with_reducible refine (alive_any w).mono ?_); rintro e w1 ⟨rfl, hb1⟩; have HB1 := hide hb1; clear hb1))
    | (go_at_call 9; go_must ((with_reducible refine (C9.out w1).mono ?_); rintro e w2 ⟨cb, rfl, hN2, hcb, hb2⟩; have HB2 := hide (HB1.out.trans (hb2.mono HB1.out.size)); have HCB := hide (show w.heap.size ≤ cb from Nat.le_trans HB1.out.size hcb); have C10 := hide (send_one w2 cb 0 0 a n c xs HL.out HBy.out HC.out HN.out (HR.out.below HB2.out) (by omega) _ [] (by simp) hN2 (fun ad e h0 h => by have := HA.out ad e h0; have := HCB.out; omega)); clear hN2 hcb hb2))
    | (go_at_call 10; go_must ((with_reducible refine C10.out.mono ?_); rintro e w3 ⟨rfl, D3, hN3, hD3, hK3⟩; have HB3 := hide (HB2.out.trans (hK3.to_below HB2.out.size (fun k hk => by have := HCB.out; omega))); have HD3 := hide (up_or (B := w.heap.size) hD3 (fun k hk => by have := HCB.out; omega) HB2.out.size); have C16 := hide (dup_two D3 w3 cb (0, 0, xs) hN3); clear hN3 hD3 hK3))
    | (go_at_call 16; go_must ((with_reducible refine C16.out.mono ?_); rintro e w4 ⟨rfl, D4, hN4, hD4, hK4⟩; have HB4 := hide (HB3.out.trans (hK4.to_below HB3.out.size HD3.out)); have HD4 := hide (up_or hD4 HD3.out HB3.out.size); have C18 := hide (flip_in D4 w4 cb (0, 0, xs) (0, 0, xs) d hN4 HD.out (by show xs.length ≤ 1000000; rw [HL.out]; omega)); clear hN4 hD4 hK4))
    | (go_at_call 18; go_must ((with_reducible refine C18.out.mono ?_); rintro e w5 ⟨rfl, D5, hN5, hD5, hK5⟩; have HB5 := hide (HB4.out.trans (hK5.to_below HB4.out.size HD4.out)); have HD5 := hide (up_or hD5 HD4.out HB4.out.size); have HN5 := hide hN5; have C22 := hide (way_any D5 w5 cb _ hN5 (by simp) (by simp only [List.mem_cons, List.not_mem_nil, or_false]; rintro p (rfl | rfl) <;> first | (show xs.length ≤ 1000000; rw [HL.out]; omega) | (show (flipL xs d).length ≤ 1000000; rw [flip_len, HL.out]; omega))); clear hN5 hD5 hK5))
    | (go_at_call 22; go_must ((with_reducible refine C22.out.mono ?_); rintro e w6 ⟨a6, n6, c6, l6, rfl, hR6, hl6, hb6⟩; have HB6 := hide (HB5.out.trans (hb6.mono HB5.out.size)); obtain ⟨rfl, g6, o6, a60, n60, c60, a61, n61, c61, rfl, k0, k1, s0, s1⟩ := way_two hR6 hl6; have C18' := hide (fun q => flip_in D5 (w6.drewN q) cb (flipP (0, 0, xs) d) (0, 0, xs) d (show NetP D5 (w6.drewN q) cb _ from HN5.out.below (below_drewN hb6 q)) (by show d / 8 < (flipL xs d).length; rw [flip_len]; exact HD.out) (by show (flipL xs d).length ≤ 1000000; rw [flip_len, HL.out]; omega)); clear hR6 hl6 hb6)))
  have t0 := fun k => s0 (w6.drewN k) rfl
  have t1 := fun k => s1 (w6.drewN k) rfl
  simp only [flipP] at t0
  have HRb := HR.out.below HB6.out
  have tb := fun k => run_str (S := bstr xs) rfl HL.out (show Reads (w6.drewN k) a (bV xs) from HRb) c
  clear s0 s1
  have e1 : ((bstr (flipL xs d)).toList == (bstr xs).toList) = false := by rw [HE.out]; simp ; exact flip_ne xs d HD.out
  have e2 : ((bstr xs).toList == (bstr xs).toList) = true := by simp
  go_big_quiet (fail)
  go_upto_region 14 with (first
    | (go_at_call 18; go_must ((with_reducible refine (C18'.out _).mono ?_); rintro e w7 ⟨rfl, D7, hN7, hD7, hK7⟩; have HB7 := hide (below_dn HB6.out hK7 HD5.out); have HD7 := hide (up_or hD7 HD5.out HB6.out.size); have C22' := hide (way_any D7 w7 cb _ hN7 (by simp) (by simp only [List.mem_cons, List.not_mem_nil, or_false]; rintro p (rfl | rfl) <;> first | (show xs.length ≤ 1000000; rw [HL.out]; omega) | (show (flipL (flipL xs d) d).length ≤ 1000000; rw [flip_len, flip_len, HL.out]; omega))); clear hN7 hD7 hK7))
    | (go_at_call 22; go_must ((with_reducible refine C22'.out.mono ?_); rintro e w8 ⟨a8, n8, c8, l8, rfl, hR8, hl8, hb8⟩; have HB8 := hide (HB7.out.trans (hb8.mono HB7.out.size)); obtain ⟨rfl, g8, o8, a80, n80, c80, a81, n81, c81, rfl, k0', k1', s0, s1⟩ := way_two hR8 hl8; clear hR8 hl8 hb8)))
  have t0' := fun k => s0 (w8.drewN k) rfl
  have HRb' := HR.out.below HB8.out
  have tb' := fun k => run_str (S := bstr xs) rfl HL.out (show Reads (w8.drewN k) a (bV xs) from HRb') c
  have e3 := flip_twice xs d
  simp only [flipP, e3] at t0'
  clear s0 s1 HRb HRb' t0 t1 tb k0 k1 k1'
  go_big_quiet (fail)
  go_wp2
  go_ret
  exact ⟨rfl, below_drewN HB8.out _⟩

/-- NetFlips answers true for every input. -/
theorem walk (a : Option Addr) (n c : Nat) (xs : List Nat) (bit : Int) (w : World) (hl : xs.length = n) (hB : Byt xs) (hcap : n ≤ c) (hm : c ≤ maxLen) (hnil : a = none → n = 0 ∧ c = 0) (hr : Reads w a (bV xs)) (hb : -9223372036854775808 ≤ bit ∧ bit ≤ 9223372036854775807) :
    Calls Try.prog 6 #[.slice a n c, .int .i64 bit] w fun e w' => e = .returned (.bool true) ∧ Below w.heap.size w w' := by
  have ha : ∀ ad, a = some ad → 0 < n → ad.block < w.heap.size := fun ad e h0 => by
    rcases hr with h | ⟨b, off, e', h⟩
    · have := bV_length xs
      rw [h] at this
      simp at this
      omega
    · rw [e] at e'
      cases e'
      exact cell_some_lt (h 0 _ (List.getElem?_eq_getElem (by rw [bV_length]; omega)))
  by_cases h : 200 < n ∨ bit < 0
  · exact walk_skip a n c bit w h
  · obtain ⟨d, rfl⟩ : ∃ d : Nat, bit = (d : Int) := ⟨bit.toNat, by omega⟩
    by_cases hd : d / 8 < n
    · exact walk_in a n c xs d w hl hB ⟨hcap, hm⟩ hnil hr ha (by omega) (by omega) hd
    · exact walk_out a n c xs d w hl hB ⟨hcap, hm⟩ hnil hr ha (by omega) (by omega) hd
end netFlips
end Go.Proofs.Ytmjglgdihlomlaa
