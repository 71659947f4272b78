/- The walk of PackTexts. -/
import Derived.Test.YtdhekagkhhejpaaRefB
namespace Go.Proofs.Ytdhekagkhhejpaa
namespace packTexts
open Go.RowKit
attribute [local go_sem ↓] Go.wp_at_zero Go.wp_at_succ
set_option linter.unusedSimpArgs false

set_option maxRecDepth 100000 in
set_option maxHeartbeats 400000 in
theorem walk_big (a0 : Option Addr) (l0 c0 : Nat) (a1 : Option Addr) (l1 c1 : Nat) (w : World) (hbig : 1000 < l0 ∨ 100 < l1) :
    Calls Try.prog 3 #[.slice a0 l0 c0, .slice a1 l1 c1] w fun e w' => e = .returned (.bool true) ∧ Below w.heap.size w w' := by
  by_cases h : 1000 < l0
  all_goals
    go_enter Try.func3, Try.ntmps3
    go_wp2_with (go_at_call 7; refine (alive_any _).mono ?_; rintro e w1 ⟨rfl, hb1⟩)
    go_ret
    exact ⟨rfl, hb1⟩

theorem encTs_small (ts : List Txt) (w : World) (hok : ∀ t ∈ ts, t.ok w) (h : ∀ i (hi : i < ts.length), ts[i].len ≤ 1000) : (encTs ts).length ≤ 1010 * ts.length := by
  have h' : ∀ t ∈ ts, t.bs.length ≤ 1000 := by
    intro t ht
    obtain ⟨i, hi, rfl⟩ := List.getElem_of_mem ht
    have := h i hi
    have := (hok _ ht).1
    omega
  clear h hok
  induction ts with
  | nil => simp [encTs]
  | cons t ts ih =>
    have h1 := ih (fun u hu => h' u (by simp [hu]))
    have h2 := h' t (by simp)
    have h3 := enc_len (foldN (t.bs.length : Int))
    simp only [encTs, List.flatMap_cons, List.length_append, List.length_cons, encT] at *
    omega

theorem encTs_byt {w : World} {ts : List Txt} (hok : ∀ t ∈ ts, t.ok w) : Byt (encTs ts) := by
  intro x hx
  simp only [encTs, List.mem_flatMap] at hx
  obtain ⟨t, ht, hx⟩ := hx
  have h := hok t ht
  exact encT_byt h.2.1 (txt_small h) x hx

theorem ref_call (a0 : Option Addr) (l0 c0 : Nat) (xs : List Nat) (a1 : Option Addr) (l1 c1 : Nat) (ts : List Txt) (w4 : World) (hl0 : xs.length = l0) (hr0 : Reads w4 a0 (bV xs)) (hnil : a0 = none → l0 = 0 ∧ c0 = 0) (hl1 : ts.length = l1) (hs1 : l1 ≤ 100) (hok : ∀ t ∈ ts, t.ok w4)
    (hrn : Reads w4 a1 (sV ts)) (hsz : (xs ++ encTs ts).length ≤ 1000000000) {S : ByteArray} (hS : S = bstr (xs ++ encTs ts)) {g4 m4 : Nat} (hm4 : (xs ++ encTs ts).length = m4) (hr4 : Reads w4 (some ⟨g4, 0, none⟩) (bV (xs ++ encTs ts))) (cap4 : Nat) :
    Calls Try.prog 9 #[.slice a0 l0 c0, .slice a1 l1 c1] w4.drew fun e w5 => ∃ a5 cap5 m5, e = .returned (.slice a5 m5 cap5) ∧ (convert 22 9 (.slice a5 m5 cap5)).run Try.prog w5 = .ok (.string S) w5 ∧
      (convert 22 9 (.slice (some ⟨g4, 0, none⟩) m4 cap4)).run Try.prog w5 = .ok (.string S) w5 ∧ Below w4.heap.size w4 w5 := by
  refine (refBytes_any a0 l0 c0 xs _ hl0 hr0.drew hnil a1 l1 c1 ts hl1 (fun t ht => (hok t ht).below ((Below.refl _ _).drew)) hrn.drew hsz (by omega)).mono ?_
  rintro e w5 ⟨a5, m5, cap5, rfl, hm5, hr5, hb5⟩
  have hb5' := below_undrew hb5
  exact ⟨a5, cap5, m5, rfl, run_str hS hm5.out hr5 cap5, run_str hS hm4 (hr4.below hb5') cap4, hb5'⟩

theorem reads_back {w : World} {g l0 : Nat} {xs ys : List Nat} (hl : xs.length = l0) (h : Reads w (some ⟨g, 0, none⟩) (bV (xs ++ ys))) : Reads w (some ⟨g, l0, none⟩) (bV ys) := by
  rcases h with h | ⟨b, off, e, h⟩
  · have : xs ++ ys = [] := by simpa [bV] using h
    exact .inl (by simp [bV, (List.append_eq_nil_iff.1 this).2])
  · simp at e
    obtain ⟨rfl, rfl⟩ := e
    refine .inr ⟨g, l0, rfl, fun j u hu => ?_⟩
    have := h (l0 + j) u (by rw [bV_append, List.getElem?_append_right (by rw [bV_length]; omega), bV_length]; simpa [hl] using hu)
    simpa using this

theorem nil_of {l0 m4 : Nat} {xs ys : List Nat} (hm : (xs ++ ys).length = m4) (hl : xs.length = l0) (h : m4 ≤ l0) : bV ys = [] := by
  have : ys.length = 0 := by simp at hm; omega
  have : ys = [] := List.eq_nil_of_length_eq_zero this
  simp [bV, this]

theorem xor255 (x : Nat) (h : x < 256) : ∃ y : Nat, y < 256 ∧ bits .xor .u8 (x : Int) 255 = (y : Int) := by
  refine ⟨x ^^^ 255, Nat.xor_lt_two_pow (n := 8) h (by omega), ?_⟩
  rw [show (255 : Int) = ((255 : Nat) : Int) from rfl, u8_xor_nat x 255 h (by omega)]

/-- A byte of one's own row, turned. -/
theorem own_turn {w : World} {B g n cap j : Nat} {zs : List Nat} (ho : w.ownsRow B 5 1 (.slice (some ⟨g, 0, none⟩) n cap) n (bV zs)) (hB : Byt zs) (_hj : j < n) (y : Nat) (hy : y < 256) :
    ∃ zs' : List Nat, Byt zs' ∧ (w.setCell ⟨g, j, none⟩ (.int .u8 (y : Nat))).ownsRow B 5 1 (.slice (some ⟨g, 0, none⟩) n cap) n (bV zs') ∧ w.grownBy (w.setCell ⟨g, j, none⟩ (.int .u8 (y : Nat))) (some g) := by
  have h := ho.stored j (.int .u8 (y : Nat))
  refine ⟨zs.set j y, ?_, ?_, h.2⟩
  · intro z hz
    rcases List.mem_or_eq_of_mem_set hz with h | h
    · exact hB z h
    · omega
  · have e : (bV zs).set j (.int .u8 (y : Nat)) = bV (zs.set j y) := by simp [bV, List.map_set]
    rw [← e]; exact h.1

theorem own_at {w : World} {B g n cap j : Nat} {zs : List Nat} (ho : w.ownsRow B 5 1 (.slice (some ⟨g, 0, none⟩) n cap) n (bV zs)) (hB : Byt zs) (hj : j < n) :
    ∃ x : Nat, x < 256 ∧ w.cell? ⟨g, j, none⟩ = some (.int .u8 (x : Nat)) ∧ w.frozen? ⟨g, j, none⟩ = false := by
  have hl : zs.length = n := by have := ho.1; rw [bV_length] at this; omega
  refine ⟨zs[j]'(by omega), hB _ (List.getElem_mem _), ?_, ho.frozenAt j⟩
  rw [ho.cellAt j (by omega)]
  simp [bV, hl, hj]

theorem own_form {w : World} {B n : Nat} {v : Value} {zs : List Value} (ho : w.ownsRow B 5 1 v n zs) : ∃ a cap, v = .slice a n cap ∧ n ≤ cap ∧ (0 < n → ∃ g, a = some ⟨g, 0, none⟩ ∧ B ≤ g ∧ g < w.heap.size) := by
  have ho' := ho
  rcases ho.2 with ⟨rfl, rfl⟩ | ⟨g, cap, cur, rfl, hB, _, h1, _⟩
  · exact ⟨none, 0, rfl, Nat.le_refl _, fun h => by omega⟩
  · exact ⟨_, cap, rfl, h1, fun _ => ⟨g, rfl, hB, (ho'.lt g rfl).2⟩⟩

theorem own_below {w w' : World} {B n : Nat} {v : Value} {xs : List Value} (h : w.ownsRow B 5 1 v n xs) (hb : Below w.heap.size w w') : w'.ownsRow B 5 1 v n xs :=
  h.kept (row := none) ⟨hb.os, hb.tape, hb.output, hb.size, fun k hk _ => hb.block k hk⟩ (by cases v.ownBlock <;> simp)

theorem cur_top {w : World} {B T c : Nat} {bs : List Nat} {bad : Bool} (h : Cur w B T c bs bad) : T ≤ w.heap.size := by
  obtain ⟨a, cap, _, _, _, _, _, _, _, _, _, _, hT⟩ := h
  exact hT

theorem own_drew {w : World} {B n : Nat} {v : Value} {xs : List Value} (h : w.ownsRow B 5 1 v n xs) : w.drew.ownsRow B 5 1 v n xs := h

theorem txts_split (ts : List Txt) (j : Nat) (h : j < ts.length) : encTs (ts.drop j) = encT ts[j].bs ++ encTs (ts.drop (j + 1)) := by
  unfold encTs
  rw [List.drop_eq_getElem_cons h, List.flatMap_cons]

set_option maxRecDepth 100000 in
set_option maxHeartbeats 4000000 in
theorem walk_small (a0 : Option Addr) (l0 c0 : Nat) (xs : List Nat) (a1 : Option Addr) (l1 c1 : Nat) (ts : List Txt) (w : World) (hl0 : xs.length = l0) (hnil : a0 = none → l0 = 0 ∧ c0 = 0) (hr0 : Reads w a0 (bV xs)) (hl1 : ts.length = l1) (hok : ∀ t ∈ ts, t.ok w) (hr1 : Reads w a1 (sV ts)) (hs0 : l0 ≤ 1000) (hs1 : l1 ≤ 100) :
    Calls Try.prog 3 #[.slice a0 l0 c0, .slice a1 l1 c1] w fun e w' => e = .returned (.bool true) ∧ Below w.heap.size w w' := by
  have HL0 := hide hl0
  have HL1 := hide hl1
  have HO := hide hok
  have HR0 := hide hr0
  have HR1 := hide hr1
  have HN0 := hide hnil
  clear hl0 hl1 hok hr0 hr1 hnil
  go_enter Try.func3, Try.ntmps3
  go_wp2_with (go_at_call 7; refine (alive_any _).mono ?_; rintro e w1 ⟨rfl, hb1⟩)
  go_loop [6] (fun i => ∃ k : Nat, i = .int .i64 (k : Nat) ∧ k ≤ l1 ∧ Hid (∀ j (hj : j < ts.length), j < k → ts[j].len ≤ 1000)) (fun i => l1 - (intOf i).toNat)
  case atStart => exact ⟨0, rfl, by omega, hide (fun j hj h => by omega)⟩
  case round =>
    obtain ⟨k, rfl, hk, hall⟩ := hrel
    by_cases hlt : k < l1
    · have hk1 : k < ts.length := by have := HL1.out; omega
      obtain ⟨b1, off1, ha1, hc1⟩ := txts_at HR1.out hk1
      subst ha1
      have hcell1 : w1.cell? ⟨b1, off1 + k, none⟩ = some (.slice ts[k].a ts[k].len ts[k].cap) := by
        have h0 := hc1.out k hk1
        rw [hb1.cell (cell_some_lt h0)]; exact h0
      clear hc1
      have HT := hide (show ∀ L, L = ts[k].len → L ≤ 1000 → ∀ j (hj : j < ts.length), j < k + 1 → ts[j].len ≤ 1000 from fun L hL h j hj hjk => by
        rcases Nat.lt_or_ge j k with h' | h'
        · exact hall.out j hj h'
        · obtain rfl : j = k := by omega
          omega)
      obtain ⟨L, hL⟩ : ∃ L, L = ts[k].len := ⟨_, rfl⟩
      rw [← hL] at hcell1
      have HL := hide hL
      clear hL
      generalize ts[k].a = ta at hcell1
      generalize ts[k].cap = tc at hcell1
      by_cases hbig : 1000 < L
      · go_wp2
        go_ret
        exact ⟨rfl, hb1⟩
      · go_wp2
        go_round
        case rel => exact ⟨k + 1, by go_num, by omega, hide (HT.out L HL.out (by omega))⟩
        case measure => simp [intOf]; omega
    · have hall' := hide (show ∀ j (hj : j < ts.length), ts[j].len ≤ 1000 from fun j hj => hall.out j hj (by have := HL1.out; omega))
      clear hall
      have HZ := hide (show (xs ++ encTs ts).length ≤ 1000000 by
        have h1 := encTs_small ts w HO.out hall'.out
        have h2 := HL0.out; have h3 := HL1.out
        simp only [List.length_append]; omega)
      go_wp2_with fail
      refine (bytes_any a0 l0 c0 xs _ HL0.out (HR0.out.below hb1) a1 l1 c1 ts HL1.out (fun t ht => (HO.out t ht).below hb1) (HR1.out.below hb1) (by have := HZ.out; omega) (by omega)).mono ?_
      rintro e w4 ⟨v4, rfl, hv4, ho4, hb4⟩
      obtain ⟨g4, cap4, m4, rfl, hm4, hm4', hB4, hc4, hr4⟩ := reads_own' ho4 hv4
      have hw4 : Below w.heap.size w w4 := hb1.trans (hb4.mono hb1.size)
      obtain ⟨S, hS⟩ : ∃ S, S = bstr (xs ++ encTs ts) := ⟨_, rfl⟩
      have hcv4 := run_str hS hm4.out hr4.drew cap4
      have HC := hide (ref_call a0 l0 c0 xs a1 l1 c1 ts w4 HL0.out (HR0.out.below hw4) HN0.out HL1.out hs1 (fun t ht => (HO.out t ht).below hw4) (HR1.out.below hw4) (by have := HZ.out; omega) hS hm4.out hr4 cap4)
      have HR4 := hide hr4
      clear hS hv4 ho4 hb4 hr4
      go_wp2_with fail
      refine wp_region_noPanic ?_
      refine wp_region_held_drew (S := fun w' => (convert 22 9 (.slice (some ⟨g4, 0, none⟩) m4 cap4)).run Try.prog w' = .ok (.string S) w') (by kernel_rfl) hcv4 (fun hHeld => ?_)
      refine takeD (i := 0) (d := some 43) (v := ?_) rfl rfl (by kernel_rfl) (by kernel_rfl) (by kernel_rfl) (fun _ _ _ h => h) (Or.inl ⟨by rfl, ?_⟩) (by assumption) ?_
      rotate_left
      · intro w hSw
        go_simp
        try (with_reducible rfl)
      try simp only [Act.put, List.setIfInBounds_toArray, List.set_cons_zero, List.set_cons_succ]
      refine takeD (i := 1) (d := some 44) (v := ?_) rfl rfl (by kernel_rfl) (by kernel_rfl) (by kernel_rfl) (fun _ _ _ h => h) (Or.inl ⟨by rfl, ?_⟩) (by assumption) ?_
      rotate_left
      · intro w hSw
        go_simp
        try (with_reducible rfl)
      try simp only [Act.put, List.setIfInBounds_toArray, List.set_cons_zero, List.set_cons_succ]
      refine takeD (i := 2) (d := some 45) (v := ?_) rfl rfl (by kernel_rfl) (by kernel_rfl) (by kernel_rfl) (fun _ _ _ h => h) (Or.inl ⟨by rfl, ?_⟩) (by assumption) ?_
      rotate_left
      · intro w hSw
        go_simp
        try (with_reducible rfl)
      try simp only [Act.put, List.setIfInBounds_toArray, List.set_cons_zero, List.set_cons_succ]
      refine takeD (i := 3) (d := some 46) (v := ?_) rfl rfl (by kernel_rfl) (by kernel_rfl) (by kernel_rfl) (fun _ _ _ h => h) (Or.inl ⟨by rfl, ?_⟩) (by assumption) ?_
      rotate_left
      · intro w hSw
        go_simp
        try (with_reducible rfl)
      try simp only [Act.put, List.setIfInBounds_toArray, List.set_cons_zero, List.set_cons_succ]
      refine wpAnyH_ready (rs := [4]) (by kernel_rfl) (by simp) ?_
      refine AllReadyH.cons rfl (fun K hK => ?_) AllReadyH.nil
      go_simp
      refine HC.out.mono ?_
      rintro e w5 ⟨a5, cap5, m5, rfl, hcv5, hcv45, hb5⟩
      go_wp2_with fail
      clear hHeld
      refine hK.out _ _ hcv45 (fun hHeld => ?_)
      clear hK K
      try simp only [Act.put, List.setIfInBounds_toArray, List.set_cons_zero, List.set_cons_succ]
      refine wpAnyH_ready (rs := [5]) (by kernel_rfl) (by simp) ?_
      refine AllReadyH.cons rfl (fun K hK => ?_) AllReadyH.nil
      go_simp
      clear hHeld
      refine hK.out _ _ hcv45 (fun hHeld => ?_)
      clear hK K
      try simp only [Act.put, List.setIfInBounds_toArray, List.set_cons_zero, List.set_cons_succ]
      refine takeD (i := 6) (d := some 49) (v := ?_) rfl rfl (by kernel_rfl) (by kernel_rfl) (by kernel_rfl) (fun _ _ _ h => h) (Or.inl ⟨by rfl, ?_⟩) (by assumption) ?_
      rotate_left
      · intro w hSw
        go_simp
        try (with_reducible rfl)
      try simp only [Act.put, List.setIfInBounds_toArray, List.set_cons_zero, List.set_cons_succ]
      refine wpAnyH_done (by kernel_rfl) ?_ _
      refine NoPanic.normal ?_
      have hw5 : Below w.heap.size w w5 := hw4.trans (hb5.mono hw4.size)
      have HR5 := hide (HR4.out.below hb5)
      have hM : l0 ≤ m4 := by have h1 := hm4.out; have h2 := HL0.out; simp at h1; omega
      have HE := hide (show (encTs ts).length = m4 - l0 by have h1 := hm4.out; have h2 := HL0.out; simp at h1; omega)
      have hm6 : m4 ≤ 1000000 := by have := HZ.out; have := hm4.out; omega
      have HT := hide (encTs_byt HO.out)
      clear hHeld hcv5 hcv45 hcv4 hb5 HC HR4 hw4
      by_cases hq : cap4 = l0
      all_goals
        go_wp2_with (at_builtin; go_must (refine append_bytes rfl (.const (.slice none 0 0)) (.tmp 53) rfl w5.heap.size (.slice none 0 0) 0 [] rfl (World.ownsRow_nil _ _ _ _) _ _ _ (encTs ts) rfl (fun h => by cases h) HE.out (by first | exact reads_back HL0.out HR5.out | exact .inl (nil_of hm4.out HL0.out (by omega))) (by omega) (Nat.le_refl _) ?_; intro v8 w8 ho8 hg8 _))
        have hw8 : Below w5.heap.size w5 w8 := (Below.refl _ _).grown hg8 (Nat.le_refl _) (fun k hk => by cases hk)
        rw [Nat.zero_add, List.nil_append] at ho8
        obtain ⟨a8, cap8, rfl, hc8, hg8'⟩ := own_form ho8
        obtain ⟨n8, hn8⟩ : ∃ n8, n8 = m4 - l0 := ⟨_, rfl⟩
        rw [← hn8] at ho8 hg8' hc8 HE ⊢
        have hr8 := hide (show Reads w8 a8 (bV (encTs ts)) from by
          obtain ⟨a', cap', m', e', h1, h2⟩ := reads_own_any ho8
          simp at e'
          rw [e'.1]; exact h2)
        clear hn8
        have hn6 : n8 ≤ 1000000 := by have h1 := HE.out; have h2 := HZ.out; simp at h2; omega
        have hw58 := hw8.size
        have hw55 := hw5.size
        go_wp2_with fail
        refine (new_any a8 n8 cap8 (encTs ts) _ HE.out HT.out hr8.out (by omega)).mono ?_
        rintro e w9 ⟨c, rfl, hC9, hb9⟩
        have ho9 := own_below ho8 hb9
        have hw9 : Below w.heap.size w w9 := (hw5.trans (hw8.mono hw5.size)).trans (hb9.mono (by omega))
        clear ho8 hg8 hw8 hr8
        go_wp2_with fail
        go_loopw [10] (fun i wr => ∃ (k : Nat) (zs : List Nat), i = .int .i64 (k : Nat) ∧ k ≤ n8 ∧ Hid (Byt zs) ∧ wr.ownsRow w5.heap.size 5 1 (.slice a8 n8 cap8) n8 (bV zs) ∧ Cur wr w8.heap.size w9.heap.size c (encTs ts) false ∧ Below w.heap.size w wr) (fun i _ => n8 - (intOf i).toNat)
        case atStart => exact ⟨0, encTs ts, rfl, by omega, HT, ho9, hC9, hw9⟩
        case round =>
          obtain ⟨k, zs, rfl, hk, hzs, ho, hC, hbel⟩ := hrel
          by_cases hkt : k < n8
          · obtain ⟨g, ha8, hgB, hgT⟩ := hg8' (by omega)
            subst ha8
            obtain ⟨x, hx256, hcell, hfr⟩ := own_at ho hzs.out hkt
            obtain ⟨y, hy256, hy⟩ := xor255 x hx256
            have HY := hide hy
            clear hy
            go_wp2
            obtain ⟨zs', hzs', ho', hg'⟩ := own_turn ho hzs.out hkt y hy256
            rw [← HY.out] at ho' hg'
            have hC' := hC.keep hg'.size (fun q hq _ => hg'.block q (by have := cur_top hC; omega) (by simp; omega))
            have hbel' := hbel.grown hg' hbel.size (fun q hq => by simp at hq; omega)
            go_roundw
            case rel => exact ⟨k + 1, zs', by go_num, by omega, hide hzs', ho', hC', hbel'⟩
            case measure => simp [intOf]; omega
          · clear ho hzs ho9 hC9 hw9
            go_wp2_with fail
            go_loopw [11] (fun i wr => ∃ j : Nat, i = .int .i64 (j : Nat) ∧ j ≤ l1 ∧ Cur wr w8.heap.size w9.heap.size c (encTs (ts.drop j)) false ∧ Below w.heap.size w wr) (fun i _ => l1 - (intOf i).toNat)
            case atStart => exact ⟨0, rfl, by omega, by simpa using hC, hbel⟩
            case round =>
              obtain ⟨j, rfl, hj, hC', hbel'⟩ := hrel
              by_cases hjt : j < l1
              · have hk1 : j < ts.length := by have := HL1.out; omega
                obtain ⟨b1, off1, ha1, hc1⟩ := txts_at HR1.out hk1
                subst ha1
                have ht := hide (HO.out ts[j] (List.getElem_mem _))
                have HCE := hide (fun (w' : World) (h : Below w.heap.size w w') => (show w'.cell? ⟨b1, off1 + j, none⟩ = some (.slice ts[j].a ts[j].len ts[j].cap) from
                  by have h0 := hc1.out j hk1; rw [h.cell (cell_some_lt h0)]; exact h0))
                have HSP := hide (txts_split ts j hk1)
                obtain ⟨t, hx⟩ : ∃ t, t = ts[j] := ⟨_, rfl⟩
                rw [← hx] at HCE ht HSP
                clear hx hc1
                obtain ⟨ta, tl, tc, tb⟩ := t
                simp only at HCE HSP
                have hlo := hC'.lo
                have htop := cur_top hC'
                rw [HSP.out] at hC'
                have htl : tb.length ≤ 9223372036854775807 := txt_small ht.out
                have HTB := hide ht.out.2.1
                obtain ⟨B9, hB9⟩ : ∃ B9, B9 = wr.heap.size := ⟨_, rfl⟩
                have hB9' : w9.heap.size ≤ B9 := by omega
                have hB9w : w.heap.size ≤ B9 := by have := hbel'.size; omega
                go_wp2_with fail
                refine (cur_rt hC' (rdBytes_enc tb _ htl)).mono ?_
                rintro e wz ⟨v9, rfl, hov, hCz, hgz⟩
                rw [← hB9] at hov
                clear hB9
                have hbz := hbel'.grown hgz hbel'.size (fun q hq => by simp at hq; omega)
                obtain ⟨a9, cap9, rfl, hc9, hg9⟩ := own_form hov
                obtain ⟨m9, hm9⟩ : ∃ m9, m9 = tb.length := ⟨_, rfl⟩
                rw [← hm9] at hov hg9 hc9 ⊢
                obtain ⟨S', hS'⟩ : ∃ S', S' = bstr tb := ⟨_, rfl⟩
                have hrz : Reads wz a9 (bV tb) := by
                  obtain ⟨a', cap', m', e', h1, h2⟩ := reads_own_any hov
                  simp at e'
                  rw [e'.1]; exact h2
                have hcv9 := run_str hS' hm9.symm hrz.drew cap9
                have hcvt := run_str hS' ht.out.1 (ht.out.below hbz).2.2.2.2.drew tc
                have hce := HCE.out _ hbz
                have hm9' : m9 ≤ 9223372036854775807 := by omega
                clear hS' hm9 hrz hC'
                go_wp2_with fail
                refine wp_region_noPanic ?_
                refine wp_region_held_drew (S := fun w' => w'.cell? ⟨b1, off1 + j, none⟩ = some (.slice ta tl tc) ∧ (convert 22 9 (.slice a9 m9 cap9)).run Try.prog w' = .ok (.string S') w' ∧ (convert 22 9 (.slice ta tl tc)).run Try.prog w' = .ok (.string S') w') (by kernel_rfl) ⟨by simpa using hce, hcv9, hcvt⟩ (fun hHeld => ?_)
                refine takeD (i := 0) (d := some 79) (v := ?_) rfl rfl (by kernel_rfl) (by kernel_rfl) (by kernel_rfl) (fun _ _ _ h => h) (Or.inl ⟨by rfl, ?_⟩) (by assumption) ?_
                rotate_left
                · intro w hSw
                  go_simp
                  try (with_reducible rfl)
                try simp only [Act.put, List.setIfInBounds_toArray, List.set_cons_zero, List.set_cons_succ]
                refine takeD (i := 1) (d := some 80) (v := ?_) rfl rfl (by kernel_rfl) (by kernel_rfl) (by kernel_rfl) (fun _ _ _ h => h) (Or.inl ⟨by rfl, ?_⟩) (by assumption) ?_
                rotate_left
                · intro w hSw
                  go_simp
                  try (with_reducible rfl)
                try simp only [Act.put, List.setIfInBounds_toArray, List.set_cons_zero, List.set_cons_succ]
                refine takeD (i := 2) (d := some 81) (v := ?_) rfl rfl (by kernel_rfl) (by kernel_rfl) (by kernel_rfl) (fun _ _ _ h => h) (Or.inl ⟨by rfl, ?_⟩) (by assumption) ?_
                rotate_left
                · intro w hSw
                  go_simp
                  try (with_reducible rfl)
                try simp only [Act.put, List.setIfInBounds_toArray, List.set_cons_zero, List.set_cons_succ]
                refine takeD (i := 3) (d := some 82) (v := ?_) rfl rfl (by kernel_rfl) (by kernel_rfl) (by kernel_rfl) (fun _ _ _ h => h) (Or.inl ⟨by rfl, ?_⟩) (by assumption) ?_
                rotate_left
                · intro w hSw
                  go_simp
                  try (with_reducible rfl)
                try simp only [Act.put, List.setIfInBounds_toArray, List.set_cons_zero, List.set_cons_succ]
                refine takeD (i := 4) (d := some 83) (v := ?_) rfl rfl (by kernel_rfl) (by kernel_rfl) (by kernel_rfl) (fun _ _ _ h => h) (Or.inl ⟨by rfl, ?_⟩) (by assumption) ?_
                rotate_left
                · intro w hSw
                  go_simp
                  try (with_reducible rfl)
                try simp only [Act.put, List.setIfInBounds_toArray, List.set_cons_zero, List.set_cons_succ]
                refine takeD (i := 5) (d := some 84) (v := ?_) rfl rfl (by kernel_rfl) (by kernel_rfl) (by kernel_rfl) (fun _ _ _ h => h) (Or.inl ⟨by rfl, ?_⟩) (by assumption) ?_
                rotate_left
                · intro w hSw
                  go_simp
                  try (with_reducible rfl)
                try simp only [Act.put, List.setIfInBounds_toArray, List.set_cons_zero, List.set_cons_succ]
                refine takeD (i := 6) (d := some 85) (v := ?_) rfl rfl (by kernel_rfl) (by kernel_rfl) (by kernel_rfl) (fun _ _ _ h => h) (Or.inl ⟨by rfl, ?_⟩) (by assumption) ?_
                rotate_left
                · intro w hSw
                  go_simp
                  try (with_reducible rfl)
                try simp only [Act.put, List.setIfInBounds_toArray, List.set_cons_zero, List.set_cons_succ]
                refine takeD (i := 7) (d := some 86) (v := ?_) rfl rfl (by kernel_rfl) (by kernel_rfl) (by kernel_rfl) (fun _ _ _ h => h) (Or.inl ⟨by rfl, ?_⟩) (by assumption) ?_
                rotate_left
                · intro w hSw
                  go_simp
                  try (with_reducible rfl)
                try simp only [Act.put, List.setIfInBounds_toArray, List.set_cons_zero, List.set_cons_succ]
                refine wpAnyH_done (by kernel_rfl) ?_ _
                refine NoPanic.normal ?_
                have hov' := hide (own_drew hov)
                have hCz' := hide hCz.drew
                have hbz' := hide hbz.drew
                have hg9' := hide hg9
                clear hHeld hcv9 hcvt hce hov hCz hbz hg9
                go_wp2_with fail
                go_loopw [13] (fun i wr => ∃ (q : Nat) (zs : List Nat), i = .int .i64 (q : Nat) ∧ q ≤ m9 ∧ Hid (Byt zs) ∧ wr.ownsRow B9 5 1 (.slice a9 m9 cap9) m9 (bV zs) ∧ Cur wr w8.heap.size w9.heap.size c (encTs (ts.drop (j + 1))) false ∧ Below w.heap.size w wr) (fun i _ => m9 - (intOf i).toNat)
                case atStart => exact ⟨0, tb, rfl, by omega, HTB, hov'.out, hCz'.out, hbz'.out⟩
                case round =>
                  obtain ⟨q, zs, rfl, hq', hzs, ho, hCq, hbelq⟩ := hrel
                  by_cases hqt : q < m9
                  · obtain ⟨g, ha9, hgB, _⟩ := hg9'.out (by omega)
                    subst ha9
                    obtain ⟨x, hx256, hcell, hfr⟩ := own_at ho hzs.out hqt
                    obtain ⟨y, hy256, hy⟩ := xor255 x hx256
                    have HY := hide hy
                    clear hy
                    go_wp2
                    obtain ⟨zs', hzs', ho', hg'⟩ := own_turn ho hzs.out hqt y hy256
                    rw [← HY.out] at ho' hg'
                    have hCk := hCq.keep hg'.size (fun z _ hz => hg'.block z (by have := cur_top hCq; omega) (by simp; omega))
                    have hbelk := hbelq.grown hg' hbelq.size (fun z hz => by simp at hz; omega)
                    go_roundw
                    case rel => exact ⟨q + 1, zs', by go_num, by omega, hide hzs', ho', hCk, hbelk⟩
                    case measure => simp [intOf]; omega
                  · go_wp2
                    go_roundw
                    case rel => exact ⟨j + 1, by go_num, by omega, hCq, hbelq⟩
                    case measure => simp [intOf]; omega
              · have e0 : ts.drop j = [] := List.drop_eq_nil_of_le (by have := HL1.out; omega)
                rw [e0] at hC'
                have hcb := hC'.bad
                obtain ⟨a6, cap6, hc06⟩ := Cur.left hC'
                go_wp2_with fail
                refine (end_any c a6 _ cap6 false _ hc06 hcb).mono ?_
                rintro e w7 ⟨rfl, rfl⟩
                go_wp2
                go_ret
                exact ⟨rfl, hbel'⟩

theorem walk (a0 : Option Addr) (l0 c0 : Nat) (xs : List Nat) (a1 : Option Addr) (l1 c1 : Nat) (ts : List Txt) (w : World) (hl0 : xs.length = l0) (hnil : a0 = none → l0 = 0 ∧ c0 = 0) (hr0 : Reads w a0 (bV xs)) (hr1 : ts.length = l1 ∧ (∀ t ∈ ts, t.ok w) ∧ Reads w a1 (sV ts)) :
    Calls Try.prog 3 #[.slice a0 l0 c0, .slice a1 l1 c1] w fun e w' => e = .returned (.bool true) ∧ Below w.heap.size w w' := by
  by_cases hbig : 1000 < l0 ∨ 100 < l1
  · exact walk_big a0 l0 c0 a1 l1 c1 w hbig
  · exact walk_small a0 l0 c0 xs a1 l1 c1 ts w hl0 hnil hr0 hr1.1 hr1.2.1 hr1.2.2 (by omega) (by omega)
end packTexts
end Go.Proofs.Ytdhekagkhhejpaa
