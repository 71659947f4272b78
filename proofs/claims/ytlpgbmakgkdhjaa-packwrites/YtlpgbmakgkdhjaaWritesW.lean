/- The walk of PackWrites. -/
import Derived.Test.YtlpgbmakgkdhjaaOpen
import Derived.Test.YtlpgbmakgkdhjaaApp
import Derived.Deep.RegionHeld3
import Derived.Deep.DrawnRows
namespace Go.Proofs.Ytlpgbmakgkdhjaa
namespace packWrites
open Go.RowKit
attribute [local go_sem ↓] Go.wp_at_zero Go.wp_at_succ
set_option linter.unusedSimpArgs false

set_option maxRecDepth 100000 in
set_option maxHeartbeats 400000 in
theorem walk_big (a0 : Option Addr) (l0 c0 : Nat) (a1 : Option Addr) (l1 c1 : Nat) (w : World) (hbig : 1000 < l0 ∨ 500 < l1) :
    Calls Try.prog 3 #[.slice a0 l0 c0, .slice a1 l1 c1] w fun e w' => e = .returned (.bool true) ∧ Below w.heap.size w w' := by
  by_cases h : 1000 < l0
  all_goals
    go_enter Try.func3, Try.ntmps3
    go_wp2_with (go_at_call 9; refine (alive_any _).mono ?_; rintro e w1 ⟨rfl, hb1⟩)
    go_ret
    exact ⟨rfl, hb1⟩

/-- The copy with a byte behind it, cut back to its length. -/
theorem own77 {w1 w2 w3 : World} {v1 v2 : Value} {xs : List Nat} {l0 : Nat} {o : Obj} (hl0 : xs.length = l0) (ho1 : w2.ownsRow w1.heap.size 5 1 v1 (0 + l0) (bV ([] ++ xs))) (hg1 : w1.grownBy w2 (Value.slice none 0 0).ownBlock)
    (ho2 : w3.ownsRow w1.heap.size 5 1 v2 (0 + l0 + 1) (bV ([] ++ xs) ++ [.int .u8 77])) (hg2 : (w2.alloc o).grownBy w3 v1.ownBlock) (hnn : v2 = .slice none 0 0 ↔ v1 = .slice none 0 0 ∧ (1 : Nat) = 0) :
    ∃ g cap, v2 = .slice (some ⟨g, 0, none⟩) (l0 + 1) cap ∧ l0 + 1 ≤ cap ∧ cap ≤ 9223372036854775807 ∧ w1.heap.size ≤ g ∧ Reads w3 (some ⟨g, 0, none⟩) (bV xs) ∧ w3.cell? ⟨g, l0, none⟩ = some (.int .u8 77) ∧ Below w1.heap.size w1 w3 := by
  have hb1 : Below w1.heap.size w1 w2 := (Below.refl _ _).grown hg1 (Nat.le_refl _) (fun k hk => by cases hk)
  have R := own_step (x := 77) (m := 0 + l0) (ys := [] ++ xs) ho1 hb1 (Nat.le_refl _) ho2 rfl hg2
  have hne : v2 ≠ .slice none 0 0 := fun e => by have := (hnn.1 e).2; omega
  rw [List.nil_append, Nat.zero_add] at R
  obtain ⟨g, cap, hv, hB, hn, hc, hr⟩ := reads_own R.1 hne
  have hcm : cap ≤ maxLen := by
    rcases R.1.2 with ⟨h, _⟩ | ⟨g', cap', cur, h, _, _, _, h4, _⟩
    · exact absurd h hne
    · rw [hv] at h; simp at h; omega
  refine ⟨g, cap, by rw [hv, ← hn], hc, hcm, hB, ?_, ?_, R.2⟩
  · have := hr.take l0
    rwa [List.take_append_of_le_length (by omega), List.take_of_length_le (by omega)] at this
  · have := reads_cell hr l0 (by simp [hl0])
    simpa [hl0] using this

theorem slice77 (g l0 cap : Nat) (h : l0 + 1 ≤ cap) (w : World) :
    (Instr.slice 22 (.slice (some ⟨g, 0, none⟩) l0 cap) none (some (.int .i64 ((l0 : Int) + 1))) none).run Try.prog w = .ok (.slice (some ⟨g, 0, none⟩) (l0 + 1) cap) w := by
  have h1 : (0 : Int) ≤ (l0 : Int) + 1 := by omega
  have h2 : (l0 : Int) + 1 ≤ (cap : Int) := by omega
  go_simp

theorem reads_at {w : World} {a : Option Addr} {ns : List Int} {k : Nat} (h : Reads w a (iV ns)) (hk : k < ns.length) : ∃ b off, a = some ⟨b, off, none⟩ ∧ Hid (∀ j u, (iV ns)[j]? = some u → w.cell? ⟨b, off + j, none⟩ = some u) := by
  rcases h with h | ⟨b, off, e, h⟩
  · have : ns = [] := by simpa [iV] using h
    subst this; simp at hk
  · exact ⟨b, off, e, h⟩

theorem ref_call (a0 : Option Addr) (l0 c0 : Nat) (xs : List Nat) (a1 : Option Addr) (l1 c1 : Nat) (ns : List Int) (w4 : World) (hl0 : xs.length = l0) (hr0 : Reads w4 a0 (bV xs)) (hnil : a0 = none → l0 = 0 ∧ c0 = 0) (hs0 : l0 ≤ 1000) (hl1 : ns.length = l1) (hs1 : l1 ≤ 500) (hin : In64 ns)
    (hrn : Reads w4 a1 (iV ns)) {S : ByteArray} (hS : S = bstr (xs ++ encs ns)) {g4 m4 : Nat} (hm4 : (xs ++ encs ns).length = m4) (hr4 : Reads w4 (some ⟨g4, 0, none⟩) (bV (xs ++ encs ns))) (cap4 : Nat) {g : Nat} (h77 : w4.cell? ⟨g, l0, none⟩ = some (.int .u8 77)) :
    Calls Try.prog 11 #[.slice a0 l0 c0, .slice a1 l1 c1] w4.drew fun e w5 => ∃ a5 cap5 m5, e = .returned (.slice a5 m5 cap5) ∧ (convert 22 9 (.slice a5 m5 cap5)).run Try.prog w5 = .ok (.string S) w5 ∧
      (convert 22 9 (.slice (some ⟨g4, 0, none⟩) m4 cap4)).run Try.prog w5 = .ok (.string S) w5 ∧ w5.cell? ⟨g, l0, none⟩ = some (.int .u8 77) ∧ Below w4.heap.size w4 w5 := by
  refine (refInt_any a0 l0 c0 xs _ hl0 hr0.drew hnil (by omega) a1 l1 c1 ns hl1 (by omega) hin hrn.drew).mono ?_
  rintro e w5 ⟨v5, rfl, ho5, hb5⟩
  obtain ⟨a5, cap5, m5, rfl, hm5, hr5⟩ := reads_own_any ho5
  have hb5' := below_undrew hb5
  exact ⟨a5, cap5, m5, rfl, run_str hS hm5.out hr5 cap5, run_str hS hm4 (hr4.below hb5') cap4, by rw [hb5'.cell (cell_some_lt h77)]; exact h77, hb5'⟩

theorem cell_far {w w' : World} {b o c : Nat} {u : Value} (h : w.cell? ⟨b, o, none⟩ = some u) (hg : w.drew.grownBy w' (some c)) (hc : b ≠ c) : w'.cell? ⟨b, o, none⟩ = some u := by
  have hb := cell_some_lt h
  rw [World.cell?_of_block (w := w.drew) (a := ⟨b, o, none⟩) (hg.block b hb (by simpa using hc))]
  simpa using h

theorem undrew {w w' : World} {r : Option Nat} (hg : w.drew.grownBy w' r) : w.grownBy w' r := ⟨hg.os, hg.tape, hg.output, hg.size, hg.block⟩

theorem reads_back {w : World} {g l0 : Nat} {xs ys : List Nat} (hl : xs.length = l0) (h : Reads w (some ⟨g, 0, none⟩) (bV (xs ++ ys))) : Reads w (some ⟨g, l0, none⟩) (bV ys) := by
  rcases h with h | ⟨b, off, e, h⟩
  · have : xs ++ ys = [] := by simpa [bV] using h
    exact .inl (by simp [bV, (List.append_eq_nil_iff.1 this).2])
  · simp at e
    obtain ⟨rfl, rfl⟩ := e
    refine .inr ⟨g, l0, rfl, fun j u hu => ?_⟩
    have := h (l0 + j) u (by rw [bV_append, List.getElem?_append_right (by rw [bV_length]; omega), bV_length]; simpa [hl] using hu)
    simpa using this

theorem nil_of {l0 m4 : Nat} {xs ys : List Nat} (hm : (xs ++ ys).length = m4) (hl : xs.length = l0) (h : m4 ≤ l0) : bV ys = [] := by
  have : ys.length = 0 := by simp at hm; omega
  have : ys = [] := List.eq_nil_of_length_eq_zero this
  simp [bV, this]

theorem encs_byt (ns : List Int) (h : In64 ns) : Byt (encs ns) := by
  intro x hx
  simp only [encs, List.mem_flatMap] at hx
  obtain ⟨n, hn, hx⟩ := hx
  exact enc_byt n (h n hn).1 (h n hn).2 x hx

theorem cur_next {w : World} {B T c : Nat} {ns : List Int} {k : Nat} (hk : k < ns.length) (hin : -9223372036854775808 ≤ ns[k] ∧ ns[k] ≤ 9223372036854775807) (h : Cur w B T c (encs (ns.drop k)) false) :
    Calls Try.prog 13 #[.pointer (some ⟨c, 0, none⟩)] w fun e w' => e = .returned (.int .i64 ns[k]) ∧ Cur w' B T c (encs (ns.drop (k + 1))) false ∧ w.grownBy w' (some c) := by
  have e : encs (ns.drop k) = enc (foldN ns[k]) ++ encs (ns.drop (k + 1)) := by
    unfold encs
    rw [List.drop_eq_getElem_cons hk, List.flatMap_cons]
  have hr : rdInt (encs (ns.drop k)) false = (ns[k], encs (ns.drop (k + 1)), false) := by
    unfold rdInt
    rw [e, dec_enc _ _ (foldN_lt _ hin.1 hin.2)]
    simp [unfold_fold]
  have h' := curInt_any B T c _ false w h
  rw [hr] at h'
  exact h'

set_option maxRecDepth 100000 in
set_option maxHeartbeats 2000000 in
theorem walk_some (a0 : Option Addr) (l0 c0 : Nat) (xs : List Nat) (a1 : Option Addr) (l1 c1 : Nat) (ns : List Int) (w : World) (hl0 : xs.length = l0) (hnil : a0 = none → l0 = 0 ∧ c0 = 0) (hr0 : Reads w a0 (bV xs)) (hl1 : ns.length = l1) (hin : In64 ns)
    (hrn : Reads w a1 (iV ns)) (hs0 : l0 ≤ 1000) (hs1 : l1 ≤ 500) :
    Calls Try.prog 3 #[.slice a0 l0 c0, .slice a1 l1 c1] w fun e w' => e = .returned (.bool true) ∧ Below w.heap.size w w' := by
  obtain ⟨i0, hi, hz0, hz1, hz2⟩ := info_parts Try.info5
  go_enter Try.func3, Try.ntmps3
  go_wp2_with (first | (go_at_call 9; refine (alive_any _).mono ?_; rintro e w1 ⟨rfl, hb1⟩) | (at_builtin; refine append_bytes rfl (.const (.slice none 0 0)) (.tmp 24) rfl w1.heap.size (.slice none 0 0) 0 [] rfl (World.ownsRow_nil _ _ _ _) a0 l0 c0 xs rfl hnil hl0 (hr0.below hb1) (by omega) (Nat.le_refl _) ?_; intro v1 w2 ho1 hg1 hnn1) | (at_builtin; go_must (refine wpList_append_own _ rfl (.tmp 25) (.tmp 26) 22 rfl w1.heap.size 5 i0 (.int .u8 0) 1 1 Try.underlying22 hi hz0 hz1 hz2 rfl (by decide) v1 _ _ rfl (ho1.alloc _) ⟨w2.heap.size, 0, none⟩ 1 1 [.int .u8 77] rfl rfl (cell_one_new _ _ _) (by simp [Value.oneCell']) (by unfold maxLen; omega) (by omega) (by have := hg1.size; simp; omega) ?_; intro v2 w3 ho2 hg2 hnn; obtain ⟨g, cap, rfl, hcap, hcm, hg, hr3, h77, hb3⟩ := own77 hl0 ho1 hg1 ho2 hg2 hnn; clear ho1 hg1 ho2 hg2 hnn hnn1)) | (go_at_call 10; go_must (refine (int_any _ l0 cap xs _ hl0 hr3 (by omega) _ l1 c1 ns hl1 (by omega) hin (hrn.below (hb1.trans (hb3.mono hb1.size)))).mono ?_; rintro e w4 ⟨v4, rfl, hv4, ho4, hb4⟩)))
  obtain ⟨g4, cap4, m4, rfl, hm4, hm4', hB4, hc4, hr4⟩ := reads_own' ho4 hv4
  obtain ⟨S, hS⟩ : ∃ S, S = bstr (xs ++ encs ns) := ⟨_, rfl⟩
  have HS := hide hS
  clear hS hv4 ho4
  have hw4 : Below w.heap.size w w4 := (hb1.trans (hb3.mono hb1.size)).trans (hb4.mono (by have := hb1.size; have := hb3.size; omega))
  have h77' : w4.cell? ⟨g, l0, none⟩ = some (.int .u8 77) := by rw [hb4.cell (cell_some_lt h77)]; exact h77
  have hcv4 := run_str HS.out hm4.out hr4.drew cap4
  have HC := hide (ref_call a0 l0 c0 xs a1 l1 c1 ns w4 hl0 (hr0.below hw4) hnil hs0 hl1 hs1 hin (hrn.below hw4) HS.out hm4.out hr4 cap4 h77')
  have HW := hide hw4
  have HR := hide hr4
  have HN := hide hrn
  have HB4 := hide hB4
  have HL0 := hide hl0
  have HL1 := hide hl1
  have HI := hide hin
  have hsl := slice77 g l0 cap hcap
  have hsum : IntKind.i64.wrap ((l0 : Int) + 1) = (l0 : Int) + 1 := by simp [IntKind.wrap, IntKind.bits, IntKind.signed]; omega
  have hlt1 : (l0 : Int) < (l0 : Int) + 1 := by omega
  clear hw4 hr4 hrn hl0 hl1 hin hB4 hb1 hb3 hb4 h77 hr3 hg hcm hcap hnil hr0 hi hz0 hz1 hz2
  refine wp_region_noPanic ?_
  refine wp_region_held_drew (S := fun w' => (convert 22 9 (.slice (some ⟨g4, 0, none⟩) m4 cap4)).run Try.prog w' = .ok (.string S) w' ∧ w'.cell? ⟨g, l0, none⟩ = some (.int .u8 77)) (by kernel_rfl) ⟨hcv4, by simpa using h77'⟩ (fun hHeld => ?_)
  refine takeD (i := 0) (d := some 34) (v := ?_) rfl rfl (by kernel_rfl) (by kernel_rfl) (by kernel_rfl) (fun _ _ _ h => h) (Or.inl ⟨by rfl, ?_⟩) (by assumption) ?_
  rotate_left
  · intro w hSw
    go_simp
    try (with_reducible rfl)
  try simp only [Act.put, List.setIfInBounds_toArray, List.set_cons_zero, List.set_cons_succ]
  refine takeD (i := 1) (d := some 35) (v := ?_) rfl rfl (by kernel_rfl) (by kernel_rfl) (by kernel_rfl) (fun _ _ _ h => h) (Or.inl ⟨by rfl, ?_⟩) (by assumption) ?_
  rotate_left
  · intro w hSw
    go_simp
    try (with_reducible rfl)
  try simp only [Act.put, List.setIfInBounds_toArray, List.set_cons_zero, List.set_cons_succ]
  refine takeD (i := 2) (d := some 36) (v := ?_) rfl rfl (by kernel_rfl) (by kernel_rfl) (by kernel_rfl) (fun _ _ _ h => h) (Or.inl ⟨by rfl, ?_⟩) (by assumption) ?_
  rotate_left
  · intro w hSw
    go_simp
    try (with_reducible rfl)
  try simp only [Act.put, List.setIfInBounds_toArray, List.set_cons_zero, List.set_cons_succ]
  refine takeD (i := 3) (d := some 37) (v := ?_) rfl rfl (by kernel_rfl) (by kernel_rfl) (by kernel_rfl) (fun _ _ _ h => h) (Or.inl ⟨by rfl, ?_⟩) (by assumption) ?_
  rotate_left
  · intro w hSw
    go_simp
    try (with_reducible rfl)
  try simp only [Act.put, List.setIfInBounds_toArray, List.set_cons_zero, List.set_cons_succ]
  refine wpAnyH_ready (rs := [4]) (by kernel_rfl) (by simp) ?_
  refine AllReadyH.cons rfl (fun K hK => ?_) AllReadyH.nil
  go_simp
  refine HC.out.mono ?_
  rintro e w5 ⟨a5, cap5, m5, rfl, hcv5, hcv45, h77'', hb5⟩
  go_wp2_with fail
  clear hHeld
  refine hK.out _ _ ⟨hcv45, h77''⟩ (fun hHeld => ?_)
  clear hK K
  try simp only [Act.put, List.setIfInBounds_toArray, List.set_cons_zero, List.set_cons_succ]
  refine wpAnyH_ready (rs := [5]) (by kernel_rfl) (by simp) ?_
  refine AllReadyH.cons rfl (fun K hK => ?_) AllReadyH.nil
  go_simp
  clear hHeld
  refine hK.out _ _ ⟨hcv45, h77''⟩ (fun hHeld => ?_)
  clear hK K
  try simp only [Act.put, List.setIfInBounds_toArray, List.set_cons_zero, List.set_cons_succ]
  refine takeD (i := 6) (d := some 40) (v := ?_) rfl rfl (by kernel_rfl) (by kernel_rfl) (by kernel_rfl) (fun _ _ _ h => h) (Or.inl ⟨by rfl, ?_⟩) (by assumption) ?_
  rotate_left
  · intro w hSw
    go_simp
    try (with_reducible rfl)
  try simp only [Act.put, List.setIfInBounds_toArray, List.set_cons_zero, List.set_cons_succ]
  refine takeD (i := 7) (d := some 41) (v := ?_) rfl rfl (by kernel_rfl) (by kernel_rfl) (by kernel_rfl) (fun _ _ _ h => h) (Or.inl ⟨by rfl, ?_⟩) (by assumption) ?_
  rotate_left
  · intro w hSw
    go_simp
    try (with_reducible rfl)
  try simp only [Act.put, List.setIfInBounds_toArray, List.set_cons_zero, List.set_cons_succ]
  refine takeD (i := 8) (d := some 42) (v := ?_) rfl rfl (by kernel_rfl) (by kernel_rfl) (by kernel_rfl) (fun _ _ _ h => h) (Or.inl ⟨by rfl, ?_⟩) (by assumption) ?_
  rotate_left
  · intro w hSw
    go_simp
    try (with_reducible rfl)
  try simp only [Act.put, List.setIfInBounds_toArray, List.set_cons_zero, List.set_cons_succ]
  refine takeD (i := 9) (d := some 43) (v := ?_) rfl rfl (by kernel_rfl) (by kernel_rfl) (by kernel_rfl) (fun _ _ _ h => h) (Or.inl ⟨by rfl, ?_⟩) (by assumption) ?_
  rotate_left
  · intro w hSw
    go_simp
    try (with_reducible rfl)
  try simp only [Act.put, List.setIfInBounds_toArray, List.set_cons_zero, List.set_cons_succ]
  refine takeD (i := 10) (d := some 44) (v := ?_) rfl rfl (by kernel_rfl) (by kernel_rfl) (by kernel_rfl) (fun _ _ _ h => h) (Or.inl ⟨by rfl, ?_⟩) (by assumption) ?_
  rotate_left
  · intro w hSw
    go_simp
    try (with_reducible rfl)
  try simp only [Act.put, List.setIfInBounds_toArray, List.set_cons_zero, List.set_cons_succ]
  refine takeD (i := 11) (d := some 45) (v := ?_) rfl rfl (by kernel_rfl) (by kernel_rfl) (by kernel_rfl) (fun _ _ _ h => h) (Or.inl ⟨by rfl, ?_⟩) (by assumption) ?_
  rotate_left
  · intro w hSw
    go_simp
    try (with_reducible rfl)
  try simp only [Act.put, List.setIfInBounds_toArray, List.set_cons_zero, List.set_cons_succ]
  refine takeD (i := 12) (d := some 46) (v := ?_) rfl rfl (by kernel_rfl) (by kernel_rfl) (by kernel_rfl) (fun _ _ _ h => h) (Or.inl ⟨by rfl, ?_⟩) (by assumption) ?_
  rotate_left
  · intro w hSw
    go_simp
    try (with_reducible rfl)
  try simp only [Act.put, List.setIfInBounds_toArray, List.set_cons_zero, List.set_cons_succ]
  refine takeD (i := 13) (d := some 47) (v := ?_) rfl rfl (by kernel_rfl) (by kernel_rfl) (by kernel_rfl) (fun _ _ _ h => h) (Or.inl ⟨by rfl, ?_⟩) (by assumption) ?_
  rotate_left
  · intro w hSw
    go_simp
    try (with_reducible rfl)
  try simp only [Act.put, List.setIfInBounds_toArray, List.set_cons_zero, List.set_cons_succ]
  refine takeD (i := 14) (d := some 48) (v := ?_) rfl rfl (by kernel_rfl) (by kernel_rfl) (by kernel_rfl) (fun _ _ _ h => h) (Or.inl ⟨by rfl, ?_⟩) (by assumption) ?_
  rotate_left
  · intro w hSw
    go_simp
    try (with_reducible rfl)
  try simp only [Act.put, List.setIfInBounds_toArray, List.set_cons_zero, List.set_cons_succ]
  refine takeD (i := 15) (d := some 49) (v := ?_) rfl rfl (by kernel_rfl) (by kernel_rfl) (by kernel_rfl) (fun _ _ _ h => h) (Or.inl ⟨by rfl, ?_⟩) (by assumption) ?_
  rotate_left
  · intro w hSw
    go_simp
    try (with_reducible rfl)
  try simp only [Act.put, List.setIfInBounds_toArray, List.set_cons_zero, List.set_cons_succ]
  refine takeD (i := 16) (d := some 50) (v := ?_) rfl rfl (by kernel_rfl) (by kernel_rfl) (by kernel_rfl) (fun _ _ _ h => h) (Or.inl ⟨by rfl, ?_⟩) (by assumption) ?_
  rotate_left
  · intro w hSw
    go_simp
    try (with_reducible rfl)
  try simp only [Act.put, List.setIfInBounds_toArray, List.set_cons_zero, List.set_cons_succ]
  refine takeD (i := 17) (d := some 51) (v := ?_) rfl rfl (by kernel_rfl) (by kernel_rfl) (by kernel_rfl) (fun _ _ _ h => h) (Or.inl ⟨by rfl, ?_⟩) (by assumption) ?_
  rotate_left
  · intro w hSw
    go_simp
    try (with_reducible rfl)
  try simp only [Act.put, List.setIfInBounds_toArray, List.set_cons_zero, List.set_cons_succ]
  refine takeD (i := 18) (d := some 52) (v := ?_) rfl rfl (by kernel_rfl) (by kernel_rfl) (by kernel_rfl) (fun _ _ _ h => h) (Or.inl ⟨by rfl, ?_⟩) (by assumption) ?_
  rotate_left
  · intro w hSw
    go_simp
    try (with_reducible rfl)
  try simp only [Act.put, List.setIfInBounds_toArray, List.set_cons_zero, List.set_cons_succ]
  refine wpAnyH_done (by kernel_rfl) ?_ _
  refine NoPanic.normal ?_
  have HR5 := hide (HR.out.below hb5)
  have hw5 : Below w.heap.size w w5 := HW.out.trans (hb5.mono HW.out.size)
  have hM : l0 ≤ m4 := by have h1 := hm4.out; have h2 := HL0.out; simp at h1; omega
  have HE := hide (show (encs ns).length = m4 - l0 by have h1 := hm4.out; have h2 := HL0.out; simp at h1; omega)
  have HT := hide (encs_byt ns HI.out)
  clear hHeld hcv5 hcv45 h77'' hcv4 h77' hsl hsum hlt1 hb5 HC HW HR HS
  by_cases hq : cap4 = l0
  all_goals
    go_wp2_with fail
    refine (new_any _ _ _ (encs ns) _ HE.out HT.out (by first | exact reads_back HL0.out HR5.out | exact .inl (nil_of hm4.out HL0.out (by omega))) (by have h1 := encs_length ns; have h2 := HE.out; have h3 := HL1.out; omega)).mono ?_
    rintro e w6 ⟨c, rfl, hC6, hb6⟩
    have hb : Below w.heap.size w w6 := hw5.trans (hb6.mono hw5.size)
    go_wp2_with fail
    go_loopw [9] (fun i wr => ∃ k : Nat, i = .int .i64 (k : Nat) ∧ k ≤ l1 ∧ Cur wr w5.heap.size w6.heap.size c (encs (ns.drop k)) false ∧ Below w.heap.size w wr) (fun i _ => l1 - (intOf i).toNat)
    case atStart => exact ⟨0, rfl, by omega, by simpa using hC6, hb⟩
    case round =>
      obtain ⟨k, rfl, hk, hC, hbel⟩ := hrel
      by_cases hlt : k < l1
      · have hkn : k < ns.length := by have := HL1.out; omega
        obtain ⟨b, off, ha1, HC0⟩ := reads_at HN.out hkn
        subst ha1
        have hcell : wr.cell? ⟨b, off + k, none⟩ = some (.int .i64 ns[k]) := by
          have h0 := HC0.out k (.int .i64 ns[k]) (by simp [iV, hkn])
          rw [hbel.cell (cell_some_lt h0)]; exact h0
        have hbb : b < w.heap.size := cell_some_lt (HC0.out k (.int .i64 ns[k]) (by simp [iV, hkn]))
        have hnk := HI.out ns[k] (List.getElem_mem _)
        have HCI := hide (cur_next hkn hnk hC.drew)
        obtain ⟨x, hx⟩ : ∃ x, x = ns[k] := ⟨_, rfl⟩
        rw [← hx] at hcell HCI
        have hlo := hC.lo
        have hw5s := hw5.size
        clear hx hnk
        go_wp2_with fail
        refine wp_region_noPanic ?_
        refine wp_region_held_drew (S := fun w' => w'.cell? ⟨b, off + k, none⟩ = some (.int .i64 x)) (by kernel_rfl) (by simpa using hcell) (fun hHeld => ?_)
        refine takeD (i := 0) (d := some 64) (v := ?_) rfl rfl (by kernel_rfl) (by kernel_rfl) (by kernel_rfl) (fun _ _ _ h => h) (Or.inl ⟨by rfl, ?_⟩) (by assumption) ?_
        rotate_left
        · intro w hSw
          go_simp
          try (with_reducible rfl)
        try simp only [Act.put, List.setIfInBounds_toArray, List.set_cons_zero, List.set_cons_succ]
        refine takeD (i := 2) (d := some 66) (v := ?_) rfl rfl (by kernel_rfl) (by kernel_rfl) (by kernel_rfl) (fun _ _ _ h => h) (Or.inl ⟨by rfl, ?_⟩) (by assumption) ?_
        rotate_left
        · intro w hSw
          go_simp
          try (with_reducible rfl)
        try simp only [Act.put, List.setIfInBounds_toArray, List.set_cons_zero, List.set_cons_succ]
        refine takeD (i := 3) (d := some 67) (v := ?_) rfl rfl (by kernel_rfl) (by kernel_rfl) (by kernel_rfl) (fun _ _ _ h => h) (Or.inl ⟨by rfl, ?_⟩) (by assumption) ?_
        rotate_left
        · intro w hSw
          go_simp
          try (with_reducible rfl)
        try simp only [Act.put, List.setIfInBounds_toArray, List.set_cons_zero, List.set_cons_succ]
        refine takeD (i := 4) (d := some 68) (v := ?_) rfl rfl (by kernel_rfl) (by kernel_rfl) (by kernel_rfl) (fun _ _ _ h => h) (Or.inl ⟨by rfl, ?_⟩) (by assumption) ?_
        rotate_left
        · intro w hSw
          go_simp
          try (with_reducible rfl)
        try simp only [Act.put, List.setIfInBounds_toArray, List.set_cons_zero, List.set_cons_succ]
        refine takeD (i := 5) (d := some 69) (v := ?_) rfl rfl (by kernel_rfl) (by kernel_rfl) (by kernel_rfl) (fun _ _ _ h => h) (Or.inl ⟨by rfl, ?_⟩) (by assumption) ?_
        rotate_left
        · intro w hSw
          go_simp
          try (with_reducible rfl)
        try simp only [Act.put, List.setIfInBounds_toArray, List.set_cons_zero, List.set_cons_succ]
        refine wpAnyH_ready (rs := [1]) (by kernel_rfl) (by simp) ?_
        refine AllReadyH.cons rfl (fun K hK => ?_) AllReadyH.nil
        go_simp
        refine HCI.out.mono ?_
        rintro e w7 ⟨rfl, hC7, hg7⟩
        go_wp2_with fail
        clear hHeld
        refine hK.out _ _ (cell_far hcell hg7 (by omega)) (fun hHeld => ?_)
        clear hK K
        try simp only [Act.put, List.setIfInBounds_toArray, List.set_cons_zero, List.set_cons_succ]
        refine takeD (i := 6) (d := some 70) (v := ?_) rfl rfl (by kernel_rfl) (by kernel_rfl) (by kernel_rfl) (fun _ _ _ h => h) (Or.inl ⟨by rfl, ?_⟩) (by assumption) ?_
        rotate_left
        · intro w hSw
          go_simp
          try (with_reducible rfl)
        try simp only [Act.put, List.setIfInBounds_toArray, List.set_cons_zero, List.set_cons_succ]
        refine wpAnyH_done (by kernel_rfl) ?_ _
        refine NoPanic.normal ?_
        have hbel7 := hbel.grown (undrew hg7) hbel.size (fun q hq => by simp at hq; omega)
        go_wp2
        go_roundw
        case rel => exact ⟨k + 1, by go_num, by omega, hC7, hbel7⟩
        case measure => simp [intOf]; omega
      · have e0 : ns.drop k = [] := List.drop_eq_nil_of_le (by have := HL1.out; omega)
        rw [e0] at hC
        have hcb := hC.bad
        obtain ⟨a6, cap6, hc06⟩ := Cur.left hC
        go_wp2_with fail
        refine (end_any c a6 _ cap6 false _ hc06 hcb).mono ?_
        rintro e w7 ⟨rfl, rfl⟩
        go_wp2_with fail
        refine (left_any c a6 _ cap6 _ hc06).mono ?_
        rintro e w8 ⟨rfl, rfl⟩
        go_wp2_with fail
        refine (bad_any c false _ hcb).mono ?_
        rintro e w9 ⟨rfl, rfl⟩
        go_wp2
        go_ret
        exact ⟨rfl, hbel⟩
theorem walk (a0 : Option Addr) (l0 c0 : Nat) (xs : List Nat) (a1 : Option Addr) (l1 c1 : Nat) (ns : List Int) (w : World) (hl0 : xs.length = l0) (hnil : a0 = none → l0 = 0 ∧ c0 = 0) (hr0 : Reads w a0 (bV xs)) (hl1 : ns.length = l1) (hin : In64 ns) (hrn : Reads w a1 (iV ns)) :
    Calls Try.prog 3 #[.slice a0 l0 c0, .slice a1 l1 c1] w fun e w' => e = .returned (.bool true) ∧ Below w.heap.size w w' := by
  by_cases hbig : 1000 < l0 ∨ 500 < l1
  · exact walk_big a0 l0 c0 a1 l1 c1 w hbig
  · exact walk_some a0 l0 c0 xs a1 l1 c1 ns w hl0 hnil hr0 hl1 hin hrn (by omega) (by omega)
end packWrites
end Go.Proofs.Ytlpgbmakgkdhjaa
