/- slices.Clone of numbers; a task at its beginning. -/
import Derived.Test.YtbpcibnomkfglaaGreatDoorEvL
import Derived.Test.YtbpcibnomkfglaaGreatDoorBegA
import Derived.Test.YtbpcibnomkfglaaGreatDoorGo
namespace Go.Proofs.YtbpcibnomkfglaaGreatDoor
open Go.RowKit Go.ChangeShapes Go.WideShapes Go.ChangeAt Go.Deep

set_option maxRecDepth 100000 in
set_option maxHeartbeats 1000000 in
theorem clone_any (a : Option Addr) (c : Nat) (xs : List Int) (w : World) (hr : Reads w a (iV xs)) (hn : a = none → xs.length = 0 ∧ c = 0) (hl : xs.length ≤ 100000) : Calls Tryz.prog 37 #[.slice a xs.length c] w fun e w' => ∃ a' c', e = .returned (.slice a' xs.length c') ∧ w'.ownsRow w.heap.size 3 1 (.slice a' xs.length c') xs.length (iV xs) ∧ Below w.heap.size w w' := by
  have q28 : ∀ (w : World) (a : Option Addr) (n c n' c' : Nat), (binOp .eql 28 (.slice a n c) (.slice none n' c')).run Tryz.prog w = .ok (.bool a.isNone) w := fun w a n c n' c' => Lib.run_eql_slice_nil w _ _ a n c n' c' Tryz.underlying28
  have u28 : ∀ w, Sem.run Tryz.prog (underlying 28) w = .ok (TypeDesc.slice 3) w := run_underlying Tryz.underlying28
  obtain ⟨i0, hi, hz0, hz1, hz2⟩ := info_parts Tryz.info3
  cases a with
  | none =>
    obtain ⟨h0, rfl⟩ := hn rfl
    have : xs = [] := List.eq_nil_of_length_eq_zero h0
    subst this
    clear hn hr hl
    go_enter Tryz.func37, Tryz.ntmps37
    go_wp2
    go_ret
    exact ⟨none, 0, rfl, World.ownsRow_nil _ _ _ _, Below.refl _ _⟩
  | some ad =>
    have hcells : ∀ (W : World), Below w.heap.size w W → ∀ j u, (iV xs)[j]? = some u → W.cell? (ad.add j) = some u := by
      intro W hW
      rcases hr.below hW with hr1 | ⟨b, off, e, hr1⟩
      · rw [hr1]; simp
      · simp at e
        subst e
        intro j u hu
        rw [add_none]; exact hr1 j u hu
    have HC := hide hcells
    clear hcells hn hr
    go_enter Tryz.func37, Tryz.ntmps37
    go_wp2_with (at_builtin; refine wpList_append_own _ rfl _ _ 28 rfl w.heap.size 3 i0 (.int .i64 0) 1 8 Tryz.underlying28 hi hz0 hz1 hz2 rfl (by decide) _ _ _ rfl (World.ownsRow_made w #[] 0 (Nat.le_refl _) (Nat.zero_le _) rfl) ad xs.length c (iV xs) rfl (by rw [iV_len]; omega) (HC.out _ ((Below.refl _ _).alloc (Nat.le_refl _) _)) (iV_one xs) (by unfold maxLen; omega) (by omega) (by simp) ?_)
    intro v' w1 hown hgrow hnil
    go_wp2
    go_ret
    have hown' : w1.ownsRow w.heap.size 3 1 v' xs.length (iV xs) := by simpa using hown
    obtain ⟨a', c', rfl, _⟩ := own_formI hown'
    refine ⟨a', c', rfl, hown', ?_⟩
    exact ((Below.refl _ w).alloc (Nat.le_refl _) _).grown hgrow (by simp) (by intro k hk; simp [Value.ownBlock] at hk; omega)

theorem own_full {w : World} {b B : Nat} {xs : List Int} (h : w.heap[b]? = some (.cells (iV xs).toArray 3 (0, 0))) (hB : B ≤ b) (hl : xs.length ≤ 1000000) : OI B w (.slice (some ⟨b, 0, none⟩) xs.length xs.length) xs :=
  ⟨by simp [iV], .inr ⟨b, xs.length, _, rfl, hB, h, Nat.le_refl _, by unfold maxLen; omega, by simp [iV], by simp only [Nat.mul_one]; exact List.take_of_length_le (by simp [iV])⟩⟩
set_option linter.unusedSimpArgs false in
set_option maxRecDepth 100000 in
set_option maxHeartbeats 4000000 in
theorem begin_any {B v : Nat} {w w0 : World} {j : JV} {cs : List Value} {fs : List Fun} {args : List Int} {L : List ET} {ev : Value} {ov : Bool} (hM : EvM B w v j L ev ov) (hJ : JobR w0 j cs fs args) (hE : Env w0) (hB : B = w0.heap.size) (hb : Below B w0 w) (hf : fs.length ≤ 1000000000) (hs : ∀ f ∈ fs, f.code.length ≤ 1000000000 ∧ f.name.size < 4294967281)
    (hC : (checkL fs j.main args.length j.fuel j.tasks).2.2 = 0) (fn : Nat) (f : Fun) (n : Nat) (hff : fs[fn]? = some f) (id : List UInt8) (aa : Option Addr) (na ac : Nat) (xs : List Int) (hxl : xs.length = na) (hxr : Reads w aa (iV xs)) (hxn : aa = none → xs.length = 0 ∧ ac = 0) (ha : f.args = (na : Int)) (hna : na ≤ n) (hn : f.locals = (n : Int)) (hnl : n ≤ 10000) :
    Calls Tryz.prog 22 #[.pointer (some ⟨v, 0, none⟩), .string (bs id), .int .i64 (fn : Int), .slice aa na ac] w fun e w' => ∃ x a lv, e = .returned (.pointer (some ⟨x, 0, none⟩)) ∧ DgM w.heap.size w' x (begE id fn xs n) a (.slice none 0 0) (.slice none 0 0) lv (.slice none 0 0) ∧ Below w.heap.size w w' := by
  subst hB
  have C1 := begin_args j cs fs args fn f n w (hJ.below hb) (hE.below hb) hf hs hC hff aa na ac xs hxl hxr ha hna hn (by omega)
  have c0 := hM.cell 0 _ rfl
  have c1 := hM.cell 1 _ rfl
  have c2 := hM.cell 2 _ rfl
  have c3 := hM.cell 3 _ rfl
  have c4 := hM.cell 4 _ rfl
  have HXR := hide hxr
  have HXN := hide hxn
  have HXL := hide hxl
  have HNA := hide hna
  clear hM hJ hE hb hs hC hff hxr ha hn hna hxl
  obtain ⟨S, hS⟩ : ∃ S, S = bs id := ⟨_, rfl⟩
  rw [← hS]
  have HS := hide hS
  clear hS
  go_enter Tryz.func22, Tryz.ntmps22
  go_wp2_with (go_at_call 36; go_must (with_reducible refine C1.mono ?_; (rintro e w1 ⟨b, rfl, hr1, hbl, hb1⟩); refine Hid.out ?_))
  refine Lib.hid ?_
  have hbb := alloc_below w1 (.cells #[.int .i64 (fn : Int), .int .i64 0, .int .i64 0, .slice none 0 0, .slice (some ⟨b, 0, none⟩) n n, .int .i64 0, .bool false] 70)
  have hsb := heap_alloc_new w1 (.cells #[.int .i64 (fn : Int), .int .i64 0, .int .i64 0, .slice none 0 0, .slice (some ⟨b, 0, none⟩) n n, .int .i64 0, .bool false] 70)
  clear C1 c0 c1 c2 c3 c4
  go_upto_region 2 with fail
  generalize w1.alloc (.cells #[.int .i64 (fn : Int), .int .i64 0, .int .i64 0, .slice none 0 0, .slice (some ⟨b, 0, none⟩) n n, .int .i64 0, .bool false] 70) = w2 at hbb hsb ⊢
  have s0 : w2.cell? ⟨w1.heap.size, 0, none⟩ = some (.int .i64 (fn : Int)) := by simp only [World.cell?, hsb]; rfl
  have s1 : w2.cell? ⟨w1.heap.size, 1, none⟩ = some (.int .i64 0) := by simp only [World.cell?, hsb]; rfl
  have s2 : w2.cell? ⟨w1.heap.size, 2, none⟩ = some (.int .i64 0) := by simp only [World.cell?, hsb]; rfl
  have s3 : w2.cell? ⟨w1.heap.size, 3, none⟩ = some (.slice none 0 0) := by simp only [World.cell?, hsb]; rfl
  have s4 : w2.cell? ⟨w1.heap.size, 4, none⟩ = some (.slice (some ⟨b, 0, none⟩) n n) := by simp only [World.cell?, hsb]; rfl
  have s5 : w2.cell? ⟨w1.heap.size, 5, none⟩ = some (.int .i64 0) := by simp only [World.cell?, hsb]; rfl
  have s6 : w2.cell? ⟨w1.heap.size, 6, none⟩ = some (.bool false) := by simp only [World.cell?, hsb]; rfl
  have hr2 := heap_row hr1 hbb
  have hb2 : Below w.heap.size w w2 := hb1.trans (hbb.mono hb1.size)
  have HR2 := hide hr2
  have HB2 := hide hb2
  have CC := fun (W : World) (hW : Below w2.heap.size w2 W) => clone_any aa ac xs W (HXR.out.below (hb2.trans (hW.mono hb2.size))) HXN.out (by have := HNA.out; have := HXL.out; omega)
  rw [HXL.out] at CC
  clear hr1 hr2 hb1 hbb hsb hb2
  generalize w1.heap.size = sb at *
  refine wp_region_noPanic ?_
  have hN : Below w2.heap.size w2 w2.drew := (Below.refl _ _).drew
  refine wp_region_held_drew (S := fun W => W.cell? ⟨sb, 0, none⟩ = some (.int .i64 (fn : Int)) ∧ W.cell? ⟨sb, 1, none⟩ = some (.int .i64 0) ∧ W.cell? ⟨sb, 2, none⟩ = some (.int .i64 0) ∧ W.cell? ⟨sb, 3, none⟩ = some (.slice none 0 0) ∧ W.cell? ⟨sb, 4, none⟩ = some (.slice (some ⟨b, 0, none⟩) n n) ∧ W.cell? ⟨sb, 5, none⟩ = some (.int .i64 0) ∧ W.cell? ⟨sb, 6, none⟩ = some (.bool false)) (by kernel_rfl) (⟨keep_cell s0 hN, keep_cell s1 hN, keep_cell s2 hN, keep_cell s3 hN, keep_cell s4 hN, keep_cell s5 hN, keep_cell s6 hN⟩) (fun hHeld => ?_)
  generalize w2.drew = wd at hN hHeld ⊢
  refine takeD (i := 0) (d := some 21) (v := ?_) rfl rfl (by kernel_rfl) (by kernel_rfl) (by kernel_rfl) (fun _ _ _ h => h) (Or.inl ⟨by rfl, ?_⟩) (by assumption) ?_
  rotate_left
  · intro w hSw
    go_simp
    try (with_reducible rfl)
  try simp only [Act.put, List.setIfInBounds_toArray, List.set_cons_zero, List.set_cons_succ]
  refine takeD (i := 1) (d := some 22) (v := ?_) rfl rfl (by kernel_rfl) (by kernel_rfl) (by kernel_rfl) (fun _ _ _ h => h) (Or.inl ⟨by rfl, ?_⟩) (by assumption) ?_
  rotate_left
  · intro w hSw
    go_simp
    try (with_reducible rfl)
  try simp only [Act.put, List.setIfInBounds_toArray, List.set_cons_zero, List.set_cons_succ]
  refine takeD (i := 2) (d := some 23) (v := ?_) rfl rfl (by kernel_rfl) (by kernel_rfl) (by kernel_rfl) (fun _ _ _ h => h) (Or.inl ⟨by rfl, ?_⟩) (by assumption) ?_
  rotate_left
  · intro w hSw
    go_simp
    try (with_reducible rfl)
  try simp only [Act.put, List.setIfInBounds_toArray, List.set_cons_zero, List.set_cons_succ]
  refine takeD (i := 5) (d := some 26) (v := ?_) rfl rfl (by kernel_rfl) (by kernel_rfl) (by kernel_rfl) (fun _ _ _ h => h) (Or.inl ⟨by rfl, ?_⟩) (by assumption) ?_
  rotate_left
  · intro w hSw
    go_simp
    try (with_reducible rfl)
  try simp only [Act.put, List.setIfInBounds_toArray, List.set_cons_zero, List.set_cons_succ]
  refine wpAnyH_ready (rs := [3]) (by kernel_rfl) (by simp) ?_
  refine AllReadyH.cons rfl (fun K hK => ?_) AllReadyH.nil
  go_simp
  refine (CC _ hN).mono ?_
  rintro e w3 ⟨ca, cc, rfl, hown3, hb3⟩
  have hsz := hN.size
  have hN := chain hN hb3
  go_wp2_with fail
  clear hHeld
  refine hK.out _ _ (⟨keep_cell s0 hN, keep_cell s1 hN, keep_cell s2 hN, keep_cell s3 hN, keep_cell s4 hN, keep_cell s5 hN, keep_cell s6 hN⟩) (fun hHeld => ?_)
  clear hK K
  try simp only [Act.put, List.setIfInBounds_toArray, List.set_cons_zero, List.set_cons_succ]
  refine takeD (i := 4) (d := some 25) (v := ?_) rfl rfl (by kernel_rfl) (by kernel_rfl) (by kernel_rfl) (fun _ _ _ h => h) (Or.inl ⟨by rfl, ?_⟩) (by assumption) ?_
  rotate_left
  · intro w hSw
    go_simp
    try (with_reducible rfl)
  try simp only [Act.put, List.setIfInBounds_toArray, List.set_cons_zero, List.set_cons_succ]
  refine takeD (i := 6) (d := some 27) (v := ?_) rfl rfl (by kernel_rfl) (by kernel_rfl) (by kernel_rfl) (fun _ _ _ h => h) (Or.inl ⟨by rfl, ?_⟩) (by assumption) ?_
  rotate_left
  · intro w hSw
    go_simp
    try (with_reducible rfl)
  try simp only [Act.put, List.setIfInBounds_toArray, List.set_cons_zero, List.set_cons_succ]
  refine wpAnyH_ready (rs := [7]) (by kernel_rfl) (by simp) ?_
  refine AllReadyH.cons rfl (fun K hK => ?_) AllReadyH.nil
  go_simp
  go_wp2_with fail
  have hA := alloc_below w3 (.cells #[.string S, .int .i64 (fn : Int), .slice ca na cc, .int .i64 0, .int .i64 0, .int .i64 0, .int .i64 0, .slice none 0 0, .int .i64 (fn : Int), .int .i64 0, .int .i64 0, .slice none 0 0, .slice (some ⟨b, 0, none⟩) n n, .int .i64 0, .bool false, .slice none 0 0, .bool false] 73)
  have hx := heap_alloc_new w3 (.cells #[.string S, .int .i64 (fn : Int), .slice ca na cc, .int .i64 0, .int .i64 0, .int .i64 0, .int .i64 0, .slice none 0 0, .int .i64 (fn : Int), .int .i64 0, .int .i64 0, .slice none 0 0, .slice (some ⟨b, 0, none⟩) n n, .int .i64 0, .bool false, .slice none 0 0, .bool false] 73)
  have hown4 := own_belowI hown3 hA
  have hN := chain hN hA
  generalize w3.alloc (.cells #[.string S, .int .i64 (fn : Int), .slice ca na cc, .int .i64 0, .int .i64 0, .int .i64 0, .int .i64 0, .slice none 0 0, .int .i64 (fn : Int), .int .i64 0, .int .i64 0, .slice none 0 0, .slice (some ⟨b, 0, none⟩) n n, .int .i64 0, .bool false, .slice none 0 0, .bool false] 73) = w4 at *
  clear hHeld
  refine hK.out _ _ (⟨keep_cell s0 hN, keep_cell s1 hN, keep_cell s2 hN, keep_cell s3 hN, keep_cell s4 hN, keep_cell s5 hN, keep_cell s6 hN⟩) (fun hHeld => ?_)
  clear hK K
  try simp only [Act.put, List.setIfInBounds_toArray, List.set_cons_zero, List.set_cons_succ]
  refine takeD (i := 8) (d := some 8) (v := ?_) rfl rfl (by kernel_rfl) (by kernel_rfl) (by kernel_rfl) (fun _ _ _ h => h) (Or.inl ⟨by rfl, ?_⟩) (by assumption) ?_
  rotate_left
  · intro w hSw
    go_simp
    try (with_reducible rfl)
  try simp only [Act.put, List.setIfInBounds_toArray, List.set_cons_zero, List.set_cons_succ]
  refine wpAnyH_done (by kernel_rfl) ?_ _
  refine NoPanic.normal ?_
  go_wp2_with fail
  go_ret
  have hxl := HXL.out
  have hna := HNA.out
  have hlen : (xs ++ List.replicate (n - na) (0 : Int)).length = n := by simp; omega
  have hlo := own_full (heap_row HR2.out hN) hbl (by rw [hlen]; omega)
  rw [hlen] at hlo
  rw [HS.out] at hx
  refine ⟨w3.heap.size, .slice ca na cc, .slice (some ⟨b, 0, none⟩) n n, rfl, ⟨hx, ?_, ?_, World.ownsRow_nil _ _ _ _, World.ownsRow_nil _ _ _ _, ?_, World.ownsRow_nil _ _ _ _, fun g h => by cases h⟩, HB2.out.trans (hN.mono HB2.out.size)⟩
  · have := HB2.out.size; have := hb3.size; omega
  · show w4.ownsRow w.heap.size 3 1 _ xs.length (iV xs)
    rw [hxl]
    exact own_mono hown4 (by have := HB2.out.size; omega)
  · show OI w.heap.size w4 _ (xs ++ List.replicate (n - xs.length) 0)
    rw [hxl]; exact hlo
end Go.Proofs.YtbpcibnomkfglaaGreatDoor
/- A task and all that come of it. -/

namespace Go.Proofs.YtbpcibnomkfglaaGreatDoor
open Go.RowKit Go.ChangeShapes Go.WideShapes Go.ChangeAt Go.Deep

theorem EvM.form {B : Nat} {w : World} {v : Nat} {j : JV} {L : List ET} {ev : Value} {ov : Bool} (h : EvM B w v j L ev ov) : ∃ ea ec, ev = .slice ea L.length ec := by
  rcases h.own.2 with ⟨q1, q2⟩ | ⟨g, cap, cur, q1, _⟩
  · exact ⟨none, 0, by rw [q1, q2]⟩
  · exact ⟨_, cap, q1⟩
theorem EvM.over {B : Nat} {w : World} {v : Nat} {j : JV} {L : List ET} {ev : Value} {ov : Bool} (h : EvM B w v j L ev ov) (b : Bool) : EvM B (w.setCell ⟨v, 6, none⟩ (.bool b)) v j L ev b :=
  ⟨by rw [heap_setCell_same w v 6 _ 53 _ h.at_]; simp [evRow], h.bv, own_else h.own (Else.cell v 6 w _) h.at_ (by decide)⟩
set_option linter.unusedSimpArgs false in
set_option maxRecDepth 100000 in
set_option maxHeartbeats 4000000 in
theorem do_over {B v : Nat} {w : World} {j : JV} {L : List ET} {ev : Value} (hM : EvM B w v j L ev false) (hBw : B ≤ w.heap.size) (ht : (L.length : Int) = j.tasks) (S : ByteArray) (fn : Int) (ar : Value) : Calls Tryz.prog 17 #[.pointer (some ⟨v, 0, none⟩), .string S, .int .i64 fn, ar] w (DoPost B v j L (L.map (·.1), true, 0, 0) w) := by
  obtain ⟨ea, ec, rfl⟩ := hM.form
  have hA := alloc_below w (.cells #[.int .i64 0, .int .i64 0] 34)
  have hnew := heap_alloc_new w (.cells #[.int .i64 0, .int .i64 0] 34)
  have hM1 := hM.below hA
  have hlt := hM.lt
  have v4 := hM1.cell 4 (.int .i64 j.tasks) rfl
  have v5 := hM1.cell 5 (.slice ea L.length ec) rfl
  have v6 := hM1.cell 6 (.bool false) rfl
  have f6 := hM1.froz 6
  have n0 := cell_row (i := 0) (cs := [.int .i64 0, .int .i64 0]) hnew rfl
  have n1 := cell_row (i := 1) (cs := [.int .i64 0, .int .i64 0]) hnew rfl
  have g0 := frozen_row (i := 0) (cs := [.int .i64 0, .int .i64 0]) hnew
  have g1 := frozen_row (i := 1) (cs := [.int .i64 0, .int .i64 0]) hnew
  have hk : ((L.length : Int) == j.tasks) = true := by simpa using ht
  have hne : v ≠ w.heap.size := by omega
  have hne' := hne.symm
  have HF := hide (show DoPost B v j L (L.map (·.1), true, 0, 0) w (.returned (.agg #[.int .i64 0, .int .i64 0])) ((((w.alloc (.cells #[.int .i64 0, .int .i64 0] 34)).setCell ⟨v, 6, none⟩ (.bool true)).setCell ⟨w.heap.size, 0, none⟩ (.int .i64 0)).setCell ⟨w.heap.size, 1, none⟩ (.int .i64 0)) from by
    have h1 := hM1.over true
    have hx1 : ((w.alloc (.cells #[.int .i64 0, .int .i64 0] 34)).setCell ⟨v, 6, none⟩ (.bool true)).heap[w.heap.size]? = some (.cells #[.int .i64 0, .int .i64 0] 34) := by rw [heap_setCell_other _ _ _ _ hne']; exact hnew
    have h2 := h1.els (Else.cell w.heap.size 0 _ (.int .i64 0)) hx1 (by decide) (by decide)
    have hx2 := heap_setCell_same _ w.heap.size 0 _ 34 (.int .i64 0) hx1
    have h3 := h2.els (Else.cell w.heap.size 1 _ (.int .i64 0)) hx2 (by decide) (by decide)
    refine ⟨rfl, [], _, by simp, by rw [List.append_nil]; exact h3, (fun t m => by cases m), ⟨?_, ?_⟩⟩
    · exact (((hA.mono hBw).setCell (p := ⟨v, 6, none⟩) hM.bv _).setCell (p := ⟨w.heap.size, 0, none⟩) hBw _).setCell (p := ⟨w.heap.size, 1, none⟩) hBw _
    · intro k c t hk hc h1 h2
      have hkv : k ≠ v := tagNe hc hM.at_ h1
      rw [heap_setCell_other _ _ _ _ (show k ≠ w.heap.size by omega), heap_setCell_other _ _ _ _ (show k ≠ w.heap.size by omega), heap_setCell_other _ _ _ _ hkv]
      exact hA.block k hk)
  clear hM hM1 hA hnew ht hlt
  go_enter Tryz.func17, Tryz.ntmps17
  go_upto_region 1 with fail
  generalize (w.alloc (.cells #[.int .i64 0, .int .i64 0] 34)) = w1 at *
  generalize w.heap.size = rb at *
  go_wp2_with fail
  have c0 : (((w1.setCell ⟨v, 6, none⟩ (.bool true)).setCell ⟨rb, 0, none⟩ (.int .i64 0)).setCell ⟨rb, 1, none⟩ (.int .i64 0)).cell? ⟨rb, 0, none⟩ = some (.int .i64 0) := by go_simp
  have c1 : (((w1.setCell ⟨v, 6, none⟩ (.bool true)).setCell ⟨rb, 0, none⟩ (.int .i64 0)).setCell ⟨rb, 1, none⟩ (.int .i64 0)).cell? ⟨rb, 1, none⟩ = some (.int .i64 0) := by go_simp
  exact bodyPost_ret (v := .agg #[.int .i64 0, .int .i64 0]) (by simp [results, Tryz.results17, go_sem, c0, c1]) rfl HF.out
theorem Kp.tg {B X : Nat} {w w' w'' : World} (h : Kp B X w w') (hT : Tg 37 w' w'') (hb : Below B w' w'') : Kp B X w w'' :=
  ⟨h.below.trans hb, fun k c t hk hc h1 h2 => by
    have e := h.far k c t hk hc h1 h2
    rw [hT k c t h2 (e.trans hc), e]⟩
theorem Kp.putV {B X v i : Nat} {w w' : World} {c : Array Value} (h : Kp B X w w') (hv : w'.heap[v]? = some (.cells c 53 (0, 0))) (hB : B ≤ v) (u : Value) : Kp B X w (w'.setCell ⟨v, i, none⟩ u) :=
  ⟨h.below.setCell (p := ⟨v, i, none⟩) hB u, fun k c' t hk hc h1 h2 => by
    have e := h.far k c' t hk hc h1 h2
    rw [heap_setCell_other _ _ _ _ (tagNe (e.trans hc) hv h1), e]⟩
theorem Kp.putE {B X g o : Nat} {w w' : World} {c : Array Value} (h : Kp B X w w') (hv : w'.heap[g]? = some (.cells c 37 (0, 0))) (hB : B ≤ g) (vs : List Value) : Kp B X w (w'.setCells g o vs) :=
  ⟨setCells_below hB vs o h.below, fun k c' t hk hc h1 h2 => by
    have e := h.far k c' t hk hc h1 h2
    rw [setCells_other (k := k) (b := g) (tagNe (e.trans hc) hv h2) vs o w', e]⟩
theorem EvM.grown {B : Nat} {w w' : World} {v : Nat} {j : JV} {L : List ET} {ev ev' : Value} {ov : Bool} {L' : List ET} (h : EvM B w v j L ev ov) (hT : Tg 37 w w') (ho : w'.ownsRow B 37 8 ev' L'.length (rowsE L')) : EvM B (w'.setCell ⟨v, 5, none⟩ ev') v j L' ev' ov := by
  have hx : w'.heap[v]? = some (.cells (evRow j ev ov).toArray 53 (0, 0)) := (hT v _ _ (by decide) h.at_).trans h.at_
  exact ⟨by rw [heap_setCell_same w' v 5 _ 53 _ hx]; simp [evRow], h.bv, own_else ho (Else.cell v 5 w' _) hx (by decide)⟩
theorem DgM.tg {X T : Nat} {w w' : World} {x : Nat} {d : Dg} {a aw sv lv rv : Value} (h : DgM X w x d a aw sv lv rv) (hT : Tg T w w') (h1 : 73 ≠ T) (h2 : 3 ≠ T) (h3 : 34 ≠ T) : DgM X w' x d a aw sv lv rv :=
  ⟨(hT x _ _ h1 h.at_).trans h.at_, h.bx, own_tg h.args hT h2, own_tg h.aws hT h2, own_tg h.st hT h2, own_tg h.lo hT h2, own_tg h.res hT h3, h.na⟩
theorem DgM.elsO {X y : Nat} {w w' : World} {x : Nat} {d : Dg} {a aw sv lv rv : Value} {c : Array Value} {t : TypeId} (h : DgM X w x d a aw sv lv rv) (he : Else y w w') (hy : w.heap[y]? = some (.cells c t (0, 0))) (h1 : 73 ≠ t) (h2 : 3 ≠ t) (h3 : 34 ≠ t) : DgM X w' x d a aw sv lv rv :=
  ⟨(he x (tagNe h.at_ hy h1)).trans h.at_, h.bx, own_else h.args he hy h2, own_else h.aws he hy h2, own_else h.st he hy h2, own_else h.lo he hy h2, own_else h.res he hy h3, h.na⟩
theorem rowT_one (t : ET) (ca cb : Option Addr) (na nb cc cd : Nat) (h1 : t.2.1 = .slice ca na cc) (h2 : t.2.2 = .slice cb nb cd) : ∀ u ∈ rowT t, u.oneCell' = true := by
  intro u hu
  simp only [rowT, En.row, h1, h2, List.mem_cons, List.not_mem_nil, or_false] at hu
  rcases hu with rfl | rfl | rfl | rfl | rfl | rfl | rfl | rfl <;> rfl
set_option linter.unusedSimpArgs false in
set_option maxRecDepth 100000 in
set_option maxHeartbeats 8000000 in
theorem do_go {B v : Nat} {w w0 : World} {j : JV} {cs : List Value} {fs : List Fun} {args : List Int} {D : DoF} {n k : Nat} (hJ : JobR w0 j cs fs args) (hE : Env w0) (hB : B = w0.heap.size) (hf : fs.length ≤ 1000000000) (hs : ∀ f ∈ fs, f.code.length ≤ 1000000000 ∧ f.name.size < 4294967281) (hC : (checkL fs j.main args.length j.fuel j.tasks).2.2 = 0) (hD : DoOk B v w0 j D)
    {L : List ET} {ev : Value} {id : List UInt8} {fn : Nat} {xs : List Int} {aa : Option Addr} {na ac nn : Nat} {f : Fun} {q : List En × Bool × Dg} (hb : Below B w0 w) (hM : EvM B w v j L ev false) (hEn : Ents B w L) (hr : Reads w aa (iV xs)) (hl : xs.length = na) (hnil : aa = none → xs.length = 0 ∧ ac = 0) (ht : ¬ (L.length : Int) = j.tasks) (hlen : L.length ≤ 10000) (hff : fs[fn]? = some f) (h1 : f.args = (na : Int)) (h2 : na ≤ nn) (h3 : f.locals = (nn : Int)) (h4 : nn ≤ 10000)
    (hloop : loopE (goE D fs j.fuel n) k (L.map (·.1) ++ [(begE id fn xs nn).e]) false (begE id fn xs nn) = some q) :
    Calls Tryz.prog 17 #[.pointer (some ⟨v, 0, none⟩), .string (bs id), .int .i64 (fn : Int), .slice aa na ac] w (DoPost B v j L (q.1.set L.length q.2.2.e, q.2.1, q.2.2.e.er, q.2.2.e.ev) w) := by
  subst hB
  obtain ⟨ea, ec, rfl⟩ := hM.form
  have hBw : w0.heap.size ≤ w.heap.size := hb.size
  have hA := alloc_below w (.cells #[.int .i64 0, .int .i64 0] 34)
  have hnew := heap_alloc_new w (.cells #[.int .i64 0, .int .i64 0] 34)
  have hM1 := hM.below hA
  have hEn1 := hEn.kp (Kp.of (B := w0.heap.size) hA hBw) (Nat.le_refl _)
  have hb1 := hb.trans (hA.mono hBw)
  have hr1 := hr.below hA
  have hszA : w.heap.size < (w.alloc (.cells #[.int .i64 0, .int .i64 0] 34)).heap.size := lt_row hnew
  have HA := hide (Kp.of (B := w0.heap.size) hA hBw)
  clear hM hEn hb hr hA
  have hk : ((L.length : Int) == j.tasks) = false := by simpa using ht
  clear ht
  go_enter Tryz.func17, Tryz.ntmps17
  go_upto_region 1 with fail
  generalize (w.alloc (.cells #[.int .i64 0, .int .i64 0] 34)) = w1 at *
  generalize hrb : w.heap.size = rb at *
  have v4 := hM1.cell 4 (.int .i64 j.tasks) rfl
  have v5 := hM1.cell 5 (.slice ea L.length ec) rfl
  have C22 := begin_any hM1 hJ hE rfl hb1 hf hs hC fn f nn hff id aa na ac xs hl hr1 hnil h1 h2 h3 h4
  obtain ⟨S, hS⟩ : ∃ S, S = bs id := ⟨_, rfl⟩
  rw [← hS] at C22 ⊢
  have HS := hide hS
  clear hS
  have HM1 := hide hM1
  have HE1 := hide hEn1
  have HB1 := hide hb1
  have HJ := hide hJ
  have HE := hide hE
  have HD := hide hD
  have HL := hide hloop
  have HNEW := hide hnew
  have HXL := hide hl
  have HRB := hide hrb
  clear hM1 hEn1 hb1 hJ hE hD hloop hnew hs hC hff h1 h2 h3 hr1 hl hrb hnil
  go_wp2_with (go_at_call 22; go_must (with_reducible refine C22.mono ?_; (rintro e w2 ⟨x, a, lv, rfl, hG, hb2⟩); refine Hid.out ?_))
  refine Lib.hid ?_
  clear C22 v4 v5
  obtain ⟨ca, cc, hca⟩ : ∃ ca cc, a = .slice ca na cc := by obtain ⟨q1, q2, q3, _⟩ := own_formI hG.args; exact ⟨q1, q2, by rw [q3]; show Value.slice q1 xs.length q2 = _; rw [HXL.out]⟩
  subst hca
  have hBX : w0.heap.size ≤ w1.heap.size := HB1.out.size
  have hM2 := HM1.out.below hb2
  have hK2 : Kp w0.heap.size w1.heap.size w1 w2 := Kp.of hb2 hBX
  have hsz2 := hb2.size
  have v5 : w2.cell? ⟨v, 5, none⟩ = some (.slice ea L.length ec) := hM2.cell 5 _ rfl
  have x0 : w2.cell? ⟨x, 0, none⟩ = some (.string S) := by rw [HS.out]; exact hG.cell 0 _ rfl
  have x1 : w2.cell? ⟨x, 1, none⟩ = some (.int .i64 (fn : Int)) := hG.cell 1 _ rfl
  have x2 : w2.cell? ⟨x, 2, none⟩ = some (.slice ca na cc) := hG.cell 2 _ rfl
  have x3 : w2.cell? ⟨x, 3, none⟩ = some (.int .i64 0) := hG.cell 3 _ rfl
  have x4 : w2.cell? ⟨x, 4, none⟩ = some (.int .i64 0) := hG.cell 4 _ rfl
  have x5 : w2.cell? ⟨x, 5, none⟩ = some (.int .i64 0) := hG.cell 5 _ rfl
  have x6 : w2.cell? ⟨x, 6, none⟩ = some (.int .i64 0) := hG.cell 6 _ rfl
  have x7 : w2.cell? ⟨x, 7, none⟩ = some (.slice none 0 0) := hG.cell 7 _ rfl
  have H1 := hide hG
  have H2 := hide hM2
  have H4 := hide hK2
  have H6 := hide hsz2
  clear hG hM2 hK2 hsz2 hb2
  go_upto_region 6 with fail
  go_cut [] from 11 (fun wc => ∃ (a4 : Option Addr) (c4 : Nat), Hid (EvM w0.heap.size wc v j (L ++ [((begE id fn xs nn).e, .slice ca na cc, .slice none 0 0)]) (.slice a4 (L.length + 1) c4) false) ∧ Hid (DgM w1.heap.size wc x (begE id fn xs nn) (.slice ca na cc) (.slice none 0 0) (.slice none 0 0) lv (.slice none 0 0)) ∧ Hid (Kp w0.heap.size w1.heap.size w1 wc))
  case first =>
    refine wp_region_noPanic ?_
    have hN : Below w2.heap.size w2 w2.drew := (Below.refl _ _).drew
    refine wp_region_held_drew (S := fun W => W.cell? ⟨x, 0, none⟩ = some (.string S) ∧ W.cell? ⟨x, 1, none⟩ = some (.int .i64 (fn : Int)) ∧ W.cell? ⟨x, 2, none⟩ = some (.slice ca na cc) ∧ W.cell? ⟨x, 3, none⟩ = some (.int .i64 0) ∧ W.cell? ⟨x, 4, none⟩ = some (.int .i64 0) ∧ W.cell? ⟨x, 5, none⟩ = some (.int .i64 0) ∧ W.cell? ⟨x, 6, none⟩ = some (.int .i64 0) ∧ W.cell? ⟨x, 7, none⟩ = some (.slice none 0 0)) (by kernel_rfl) (⟨keep_cell x0 hN, keep_cell x1 hN, keep_cell x2 hN, keep_cell x3 hN, keep_cell x4 hN, keep_cell x5 hN, keep_cell x6 hN, keep_cell x7 hN⟩) (fun hHeld => ?_)
    generalize w2.drew = wd at hN hHeld ⊢
    have v5 := keep_cell v5 hN
    refine takeD (i := 0) (d := some 32) (v := ?_) rfl rfl (by kernel_rfl) (by kernel_rfl) (by kernel_rfl) (fun _ _ _ h => h) (Or.inl ⟨by rfl, ?_⟩) (by assumption) ?_
    rotate_left
    · intro w hSw
      go_simp
      try (with_reducible rfl)
    try simp only [Act.put, List.setIfInBounds_toArray, List.set_cons_zero, List.set_cons_succ]
    refine takeD (i := 1) (d := some 33) (v := ?_) rfl rfl (by kernel_rfl) (by kernel_rfl) (by kernel_rfl) (fun _ _ _ h => h) (Or.inl ⟨by rfl, ?_⟩) (by assumption) ?_
    rotate_left
    · intro w hSw
      go_simp
      try (with_reducible rfl)
    try simp only [Act.put, List.setIfInBounds_toArray, List.set_cons_zero, List.set_cons_succ]
    refine takeD (i := 2) (d := some 34) (v := ?_) rfl rfl (by kernel_rfl) (by kernel_rfl) (by kernel_rfl) (fun _ _ _ h => h) (Or.inl ⟨by rfl, ?_⟩) (by assumption) ?_
    rotate_left
    · intro w hSw
      go_simp
      try (with_reducible rfl)
    try simp only [Act.put, List.setIfInBounds_toArray, List.set_cons_zero, List.set_cons_succ]
    refine takeD (i := 3) (d := some 35) (v := ?_) rfl rfl (by kernel_rfl) (by kernel_rfl) (by kernel_rfl) (fun _ _ _ h => h) (Or.inl ⟨by rfl, ?_⟩) (by assumption) ?_
    rotate_left
    · intro w hSw
      go_simp
      try (with_reducible rfl)
    try simp only [Act.put, List.setIfInBounds_toArray, List.set_cons_zero, List.set_cons_succ]
    refine takeD (i := 5) (d := some 37) (v := ?_) rfl rfl (by kernel_rfl) (by kernel_rfl) (by kernel_rfl) (fun _ _ _ h => h) (Or.inl ⟨by rfl, ?_⟩) (by assumption) ?_
    rotate_left
    · intro w hSw
      go_simp
      try (with_reducible rfl)
    try simp only [Act.put, List.setIfInBounds_toArray, List.set_cons_zero, List.set_cons_succ]
    refine takeD (i := 6) (d := some 38) (v := ?_) rfl rfl (by kernel_rfl) (by kernel_rfl) (by kernel_rfl) (fun _ _ _ h => h) (Or.inl ⟨by rfl, ?_⟩) (by assumption) ?_
    rotate_left
    · intro w hSw
      go_simp
      try (with_reducible rfl)
    try simp only [Act.put, List.setIfInBounds_toArray, List.set_cons_zero, List.set_cons_succ]
    refine takeD (i := 7) (d := some 39) (v := ?_) rfl rfl (by kernel_rfl) (by kernel_rfl) (by kernel_rfl) (fun _ _ _ h => h) (Or.inl ⟨by rfl, ?_⟩) (by assumption) ?_
    rotate_left
    · intro w hSw
      go_simp
      try (with_reducible rfl)
    try simp only [Act.put, List.setIfInBounds_toArray, List.set_cons_zero, List.set_cons_succ]
    refine takeD (i := 8) (d := some 40) (v := ?_) rfl rfl (by kernel_rfl) (by kernel_rfl) (by kernel_rfl) (fun _ _ _ h => h) (Or.inl ⟨by rfl, ?_⟩) (by assumption) ?_
    rotate_left
    · intro w hSw
      go_simp
      try (with_reducible rfl)
    try simp only [Act.put, List.setIfInBounds_toArray, List.set_cons_zero, List.set_cons_succ]
    refine wpAnyH_ready (rs := [4, 9]) (by kernel_rfl) (by simp) ?_
    refine AllReadyH.cons rfl (fun K hK => ?_) (AllReadyH.cons rfl (fun K hK => ?_) AllReadyH.nil)
    · skip
      have hHeld2 := hHeld
      go_simp
      go_wp2_with fail
      clear hHeld2
      refine hK.out _ _ (⟨keep_cell x0 hN, keep_cell x1 hN, keep_cell x2 hN, keep_cell x3 hN, keep_cell x4 hN, keep_cell x5 hN, keep_cell x6 hN, keep_cell x7 hN⟩) (fun hHeld => ?_)
      clear hK K
      try simp only [Act.put, List.setIfInBounds_toArray, List.set_cons_zero, List.set_cons_succ]
      refine wpAnyH_ready (rs := [9]) (by kernel_rfl) (by simp) ?_
      refine AllReadyH.cons rfl (fun K hK => ?_) AllReadyH.nil
      go_simp
      go_wp2_with fail
      have hA := alloc_below wd (.cells #[.string S, .int .i64 (fn : Int), .slice ca na cc, .int .i64 0, .int .i64 0, .int .i64 0, .int .i64 0, .slice none 0 0] 37)
      have hb0 := heap_alloc_new wd (.cells #[.string S, .int .i64 (fn : Int), .slice ca na cc, .int .i64 0, .int .i64 0, .int .i64 0, .int .i64 0, .slice none 0 0] 37)
      have H1 := hide (H1.out.kp (Kp.of (B := w0.heap.size) hN (Nat.le_trans hBX H6.out)) (Nat.le_refl _))
      have H2 := hide (H2.out.below hN)
      have H4 := hide (H4.out.below_more hN H6.out hBX)
      have H6 := hide (Nat.le_trans H6.out (hN).size)
      have H1 := hide (H1.out.kp (Kp.of (B := w0.heap.size) hA (Nat.le_trans hBX H6.out)) (Nat.le_refl _))
      have H2 := hide (H2.out.below hA)
      have H4 := hide (H4.out.below_more hA H6.out hBX)
      have H6 := hide (Nat.le_trans H6.out (hA).size)
      have x0 := keep_cell x0 hN
      have x1 := keep_cell x1 hN
      have x2 := keep_cell x2 hN
      have x3 := keep_cell x3 hN
      have x4 := keep_cell x4 hN
      have x5 := keep_cell x5 hN
      have x6 := keep_cell x6 hN
      have x7 := keep_cell x7 hN
      have x0 := keep_cell x0 hA
      have x1 := keep_cell x1 hA
      have x2 := keep_cell x2 hA
      have x3 := keep_cell x3 hA
      have x4 := keep_cell x4 hA
      have x5 := keep_cell x5 hA
      have x6 := keep_cell x6 hA
      have x7 := keep_cell x7 hA
      have v5 := keep_cell v5 hA
      generalize wd.alloc (.cells #[.string S, .int .i64 (fn : Int), .slice ca na cc, .int .i64 0, .int .i64 0, .int .i64 0, .int .i64 0, .slice none 0 0] 37) = w6 at *
      have hN : Below w6.heap.size w6 w6 := Below.refl _ _
      clear hA hHeld
      refine hK.out _ _ (⟨keep_cell x0 hN, keep_cell x1 hN, keep_cell x2 hN, keep_cell x3 hN, keep_cell x4 hN, keep_cell x5 hN, keep_cell x6 hN, keep_cell x7 hN⟩) (fun hHeld => ?_)
      clear hK K
      try simp only [Act.put, List.setIfInBounds_toArray, List.set_cons_zero, List.set_cons_succ]
      refine wpAnyH_ready (rs := [10]) (by kernel_rfl) (by simp) ?_
      refine AllReadyH.cons rfl (fun K hK => ?_) AllReadyH.nil
      obtain ⟨a7, c7, w7, hrun, ho7, hg7, hw7⟩ := append_one (t := 23) (e := 37) (size := 8) (bytes := 104) (z := .agg #[.string ⟨#[]⟩, .int .i64 0, .slice none 0 0, .int .i64 0, .int .i64 0, .int .i64 0, .int .i64 0, .slice none 0 0]) Tryz.underlying23 (by kernel_rfl) rfl (by decide) (by decide) w6 w0.heap.size (.slice ea L.length ec) L.length (rowsE L) [.string S, .int .i64 (fn : Int), .slice ca na cc, .int .i64 0, .int .i64 0, .int .i64 0, .int .i64 0, .slice none 0 0] wd.heap.size H2.out.own rfl (fun j u hu => cell_row hb0 hu) (by intro u hu; simp at hu; rcases hu with rfl | rfl | rfl | rfl | rfl | rfl | rfl | rfl <;> rfl) (by omega) (Nat.le_trans hBX H6.out)
      have hT := Tg.of H2.out.own hg7
      have hbB : Below w0.heap.size w6 w7 := (Below.refl _ w6).grown hg7 (Nat.le_trans hBX H6.out) (fun q hq => (H2.out.own.lt q hq).1)
      have hv7 : w7.heap[v]? = some (.cells (evRow j (.slice ea L.length ec) false).toArray 53 (0, 0)) := (hT v _ _ (by decide) H2.out.at_).trans H2.out.at_
      have v5 : w7.cell? ⟨v, 5, none⟩ = some (.slice ea L.length ec) := cell_row hv7 rfl
      have f5 : w7.frozen? ⟨v, 5, none⟩ = false := by simp [World.frozen?, hv7]
      have H1 := hide (H1.out.tg hT (by decide) (by decide) (by decide))
      have x0 : w7.cell? ⟨x, 0, none⟩ = some (.string S) := by rw [HS.out]; exact H1.out.cell 0 _ rfl
      have x1 : w7.cell? ⟨x, 1, none⟩ = some (.int .i64 (fn : Int)) := H1.out.cell 1 _ rfl
      have x2 : w7.cell? ⟨x, 2, none⟩ = some (.slice ca na cc) := H1.out.cell 2 _ rfl
      have x3 : w7.cell? ⟨x, 3, none⟩ = some (.int .i64 0) := H1.out.cell 3 _ rfl
      have x4 : w7.cell? ⟨x, 4, none⟩ = some (.int .i64 0) := H1.out.cell 4 _ rfl
      have x5 : w7.cell? ⟨x, 5, none⟩ = some (.int .i64 0) := H1.out.cell 5 _ rfl
      have x6 : w7.cell? ⟨x, 6, none⟩ = some (.int .i64 0) := H1.out.cell 6 _ rfl
      have x7 : w7.cell? ⟨x, 7, none⟩ = some (.slice none 0 0) := H1.out.cell 7 _ rfl
      have H2 := hide (H2.out.grown (L' := L ++ [((begE id fn xs nn).e, .slice ca na cc, .slice none 0 0)]) hT (by rw [rowsE_app, List.length_append]; rw [HS.out] at ho7; exact ho7))
      have hEl := Else.cell v 5 w7 (.slice a7 (L.length + 1) c7)
      have H1 := hide (H1.out.elsO hEl hv7 (by decide) (by decide) (by decide))
      have H4 := hide ((H4.out.tg hT hbB).putV (i := 5) hv7 H2.out.bv (.slice a7 (L.length + 1) c7))
      clear ho7 hg7 hw7 hbB hEl hb0
      have hN : Below w7.heap.size w7 w7 := Below.refl _ _
      refine wp_append_rows (.tmp 36) (.tmp 41) rfl rfl rfl hrun ?_
      clear hHeld
      refine hK.out _ _ (⟨keep_cell x0 hN, keep_cell x1 hN, keep_cell x2 hN, keep_cell x3 hN, keep_cell x4 hN, keep_cell x5 hN, keep_cell x6 hN, keep_cell x7 hN⟩) (fun hHeld => ?_)
      clear hK K
      try simp only [Act.put, List.setIfInBounds_toArray, List.set_cons_zero, List.set_cons_succ]
      refine takeD (i := 11) (d := some 43) (v := ?_) rfl rfl (by kernel_rfl) (by kernel_rfl) (by kernel_rfl) (fun _ _ _ h => h) (Or.inl ⟨by rfl, ?_⟩) (by assumption) ?_
      rotate_left
      · intro w hSw
        go_simp
        try (with_reducible rfl)
      try simp only [Act.put, List.setIfInBounds_toArray, List.set_cons_zero, List.set_cons_succ]
      refine takeD (i := 12) (d := some 44) (v := ?_) rfl rfl (by kernel_rfl) (by kernel_rfl) (by kernel_rfl) (fun _ _ _ h => h) (Or.inl ⟨by rfl, ?_⟩) (by assumption) ?_
      rotate_left
      · intro w hSw
        go_simp
        try (with_reducible rfl)
      try simp only [Act.put, List.setIfInBounds_toArray, List.set_cons_zero, List.set_cons_succ]
      refine wpAnyH_ready (rs := [13]) (by kernel_rfl) (by simp) ?_
      refine AllReadyH.cons rfl (fun K hK => ?_) AllReadyH.nil
      go_simp
      go_wp2_with fail
      have x0 : (w7.setCell ⟨v, 5, none⟩ (.slice a7 (L.length + 1) c7)).cell? ⟨x, 0, none⟩ = some (.string S) := by rw [HS.out]; exact H1.out.cell 0 _ rfl
      have x1 : (w7.setCell ⟨v, 5, none⟩ (.slice a7 (L.length + 1) c7)).cell? ⟨x, 1, none⟩ = some (.int .i64 (fn : Int)) := H1.out.cell 1 _ rfl
      have x2 : (w7.setCell ⟨v, 5, none⟩ (.slice a7 (L.length + 1) c7)).cell? ⟨x, 2, none⟩ = some (.slice ca na cc) := H1.out.cell 2 _ rfl
      have x3 : (w7.setCell ⟨v, 5, none⟩ (.slice a7 (L.length + 1) c7)).cell? ⟨x, 3, none⟩ = some (.int .i64 0) := H1.out.cell 3 _ rfl
      have x4 : (w7.setCell ⟨v, 5, none⟩ (.slice a7 (L.length + 1) c7)).cell? ⟨x, 4, none⟩ = some (.int .i64 0) := H1.out.cell 4 _ rfl
      have x5 : (w7.setCell ⟨v, 5, none⟩ (.slice a7 (L.length + 1) c7)).cell? ⟨x, 5, none⟩ = some (.int .i64 0) := H1.out.cell 5 _ rfl
      have x6 : (w7.setCell ⟨v, 5, none⟩ (.slice a7 (L.length + 1) c7)).cell? ⟨x, 6, none⟩ = some (.int .i64 0) := H1.out.cell 6 _ rfl
      have x7 : (w7.setCell ⟨v, 5, none⟩ (.slice a7 (L.length + 1) c7)).cell? ⟨x, 7, none⟩ = some (.slice none 0 0) := H1.out.cell 7 _ rfl
      generalize w7.setCell ⟨v, 5, none⟩ (.slice a7 (L.length + 1) c7) = w8 at *
      have hN : Below w8.heap.size w8 w8 := Below.refl _ _
      clear hHeld
      refine hK.out _ _ (⟨keep_cell x0 hN, keep_cell x1 hN, keep_cell x2 hN, keep_cell x3 hN, keep_cell x4 hN, keep_cell x5 hN, keep_cell x6 hN, keep_cell x7 hN⟩) (fun hHeld => ?_)
      clear hK K
      try simp only [Act.put, List.setIfInBounds_toArray, List.set_cons_zero, List.set_cons_succ]
      refine wpAnyH_done (by kernel_rfl) ?_ _
      refine NoPanic.normal ?_
      go_wp2_with fail
      go_meet
      case rel => exact ⟨a7, c7, H2.out, H1.out, H4.out⟩
    · skip
      go_simp
      go_wp2_with fail
      have hA := alloc_below wd (.cells #[.string S, .int .i64 (fn : Int), .slice ca na cc, .int .i64 0, .int .i64 0, .int .i64 0, .int .i64 0, .slice none 0 0] 37)
      have hb0 := heap_alloc_new wd (.cells #[.string S, .int .i64 (fn : Int), .slice ca na cc, .int .i64 0, .int .i64 0, .int .i64 0, .int .i64 0, .slice none 0 0] 37)
      have H1 := hide (H1.out.kp (Kp.of (B := w0.heap.size) hN (Nat.le_trans hBX H6.out)) (Nat.le_refl _))
      have H2 := hide (H2.out.below hN)
      have H4 := hide (H4.out.below_more hN H6.out hBX)
      have H6 := hide (Nat.le_trans H6.out (hN).size)
      have H1 := hide (H1.out.kp (Kp.of (B := w0.heap.size) hA (Nat.le_trans hBX H6.out)) (Nat.le_refl _))
      have H2 := hide (H2.out.below hA)
      have H4 := hide (H4.out.below_more hA H6.out hBX)
      have H6 := hide (Nat.le_trans H6.out (hA).size)
      have x0 := keep_cell x0 hN
      have x1 := keep_cell x1 hN
      have x2 := keep_cell x2 hN
      have x3 := keep_cell x3 hN
      have x4 := keep_cell x4 hN
      have x5 := keep_cell x5 hN
      have x6 := keep_cell x6 hN
      have x7 := keep_cell x7 hN
      have x0 := keep_cell x0 hA
      have x1 := keep_cell x1 hA
      have x2 := keep_cell x2 hA
      have x3 := keep_cell x3 hA
      have x4 := keep_cell x4 hA
      have x5 := keep_cell x5 hA
      have x6 := keep_cell x6 hA
      have x7 := keep_cell x7 hA
      have v5 := keep_cell v5 hA
      generalize wd.alloc (.cells #[.string S, .int .i64 (fn : Int), .slice ca na cc, .int .i64 0, .int .i64 0, .int .i64 0, .int .i64 0, .slice none 0 0] 37) = w6 at *
      have hN : Below w6.heap.size w6 w6 := Below.refl _ _
      clear hA hHeld
      refine hK.out _ _ (⟨keep_cell x0 hN, keep_cell x1 hN, keep_cell x2 hN, keep_cell x3 hN, keep_cell x4 hN, keep_cell x5 hN, keep_cell x6 hN, keep_cell x7 hN⟩) (fun hHeld => ?_)
      clear hK K
      try simp only [Act.put, List.setIfInBounds_toArray, List.set_cons_zero, List.set_cons_succ]
      refine wpAnyH_ready (rs := [4]) (by kernel_rfl) (by simp) ?_
      refine AllReadyH.cons rfl (fun K hK => ?_) AllReadyH.nil
      have hHeld2 := hHeld
      go_simp
      go_wp2_with fail
      clear hHeld2
      refine hK.out _ _ (⟨keep_cell x0 hN, keep_cell x1 hN, keep_cell x2 hN, keep_cell x3 hN, keep_cell x4 hN, keep_cell x5 hN, keep_cell x6 hN, keep_cell x7 hN⟩) (fun hHeld => ?_)
      clear hK K
      try simp only [Act.put, List.setIfInBounds_toArray, List.set_cons_zero, List.set_cons_succ]
      refine wpAnyH_ready (rs := [10]) (by kernel_rfl) (by simp) ?_
      refine AllReadyH.cons rfl (fun K hK => ?_) AllReadyH.nil
      obtain ⟨a7, c7, w7, hrun, ho7, hg7, hw7⟩ := append_one (t := 23) (e := 37) (size := 8) (bytes := 104) (z := .agg #[.string ⟨#[]⟩, .int .i64 0, .slice none 0 0, .int .i64 0, .int .i64 0, .int .i64 0, .int .i64 0, .slice none 0 0]) Tryz.underlying23 (by kernel_rfl) rfl (by decide) (by decide) w6 w0.heap.size (.slice ea L.length ec) L.length (rowsE L) [.string S, .int .i64 (fn : Int), .slice ca na cc, .int .i64 0, .int .i64 0, .int .i64 0, .int .i64 0, .slice none 0 0] wd.heap.size H2.out.own rfl (fun j u hu => cell_row hb0 hu) (by intro u hu; simp at hu; rcases hu with rfl | rfl | rfl | rfl | rfl | rfl | rfl | rfl <;> rfl) (by omega) (Nat.le_trans hBX H6.out)
      have hT := Tg.of H2.out.own hg7
      have hbB : Below w0.heap.size w6 w7 := (Below.refl _ w6).grown hg7 (Nat.le_trans hBX H6.out) (fun q hq => (H2.out.own.lt q hq).1)
      have hv7 : w7.heap[v]? = some (.cells (evRow j (.slice ea L.length ec) false).toArray 53 (0, 0)) := (hT v _ _ (by decide) H2.out.at_).trans H2.out.at_
      have v5 : w7.cell? ⟨v, 5, none⟩ = some (.slice ea L.length ec) := cell_row hv7 rfl
      have f5 : w7.frozen? ⟨v, 5, none⟩ = false := by simp [World.frozen?, hv7]
      have H1 := hide (H1.out.tg hT (by decide) (by decide) (by decide))
      have x0 : w7.cell? ⟨x, 0, none⟩ = some (.string S) := by rw [HS.out]; exact H1.out.cell 0 _ rfl
      have x1 : w7.cell? ⟨x, 1, none⟩ = some (.int .i64 (fn : Int)) := H1.out.cell 1 _ rfl
      have x2 : w7.cell? ⟨x, 2, none⟩ = some (.slice ca na cc) := H1.out.cell 2 _ rfl
      have x3 : w7.cell? ⟨x, 3, none⟩ = some (.int .i64 0) := H1.out.cell 3 _ rfl
      have x4 : w7.cell? ⟨x, 4, none⟩ = some (.int .i64 0) := H1.out.cell 4 _ rfl
      have x5 : w7.cell? ⟨x, 5, none⟩ = some (.int .i64 0) := H1.out.cell 5 _ rfl
      have x6 : w7.cell? ⟨x, 6, none⟩ = some (.int .i64 0) := H1.out.cell 6 _ rfl
      have x7 : w7.cell? ⟨x, 7, none⟩ = some (.slice none 0 0) := H1.out.cell 7 _ rfl
      have H2 := hide (H2.out.grown (L' := L ++ [((begE id fn xs nn).e, .slice ca na cc, .slice none 0 0)]) hT (by rw [rowsE_app, List.length_append]; rw [HS.out] at ho7; exact ho7))
      have hEl := Else.cell v 5 w7 (.slice a7 (L.length + 1) c7)
      have H1 := hide (H1.out.elsO hEl hv7 (by decide) (by decide) (by decide))
      have H4 := hide ((H4.out.tg hT hbB).putV (i := 5) hv7 H2.out.bv (.slice a7 (L.length + 1) c7))
      clear ho7 hg7 hw7 hbB hEl hb0
      have hN : Below w7.heap.size w7 w7 := Below.refl _ _
      refine wp_append_rows (.tmp 36) (.tmp 41) rfl rfl rfl hrun ?_
      clear hHeld
      refine hK.out _ _ (⟨keep_cell x0 hN, keep_cell x1 hN, keep_cell x2 hN, keep_cell x3 hN, keep_cell x4 hN, keep_cell x5 hN, keep_cell x6 hN, keep_cell x7 hN⟩) (fun hHeld => ?_)
      clear hK K
      try simp only [Act.put, List.setIfInBounds_toArray, List.set_cons_zero, List.set_cons_succ]
      refine takeD (i := 11) (d := some 43) (v := ?_) rfl rfl (by kernel_rfl) (by kernel_rfl) (by kernel_rfl) (fun _ _ _ h => h) (Or.inl ⟨by rfl, ?_⟩) (by assumption) ?_
      rotate_left
      · intro w hSw
        go_simp
        try (with_reducible rfl)
      try simp only [Act.put, List.setIfInBounds_toArray, List.set_cons_zero, List.set_cons_succ]
      refine takeD (i := 12) (d := some 44) (v := ?_) rfl rfl (by kernel_rfl) (by kernel_rfl) (by kernel_rfl) (fun _ _ _ h => h) (Or.inl ⟨by rfl, ?_⟩) (by assumption) ?_
      rotate_left
      · intro w hSw
        go_simp
        try (with_reducible rfl)
      try simp only [Act.put, List.setIfInBounds_toArray, List.set_cons_zero, List.set_cons_succ]
      refine wpAnyH_ready (rs := [13]) (by kernel_rfl) (by simp) ?_
      refine AllReadyH.cons rfl (fun K hK => ?_) AllReadyH.nil
      go_simp
      go_wp2_with fail
      have x0 : (w7.setCell ⟨v, 5, none⟩ (.slice a7 (L.length + 1) c7)).cell? ⟨x, 0, none⟩ = some (.string S) := by rw [HS.out]; exact H1.out.cell 0 _ rfl
      have x1 : (w7.setCell ⟨v, 5, none⟩ (.slice a7 (L.length + 1) c7)).cell? ⟨x, 1, none⟩ = some (.int .i64 (fn : Int)) := H1.out.cell 1 _ rfl
      have x2 : (w7.setCell ⟨v, 5, none⟩ (.slice a7 (L.length + 1) c7)).cell? ⟨x, 2, none⟩ = some (.slice ca na cc) := H1.out.cell 2 _ rfl
      have x3 : (w7.setCell ⟨v, 5, none⟩ (.slice a7 (L.length + 1) c7)).cell? ⟨x, 3, none⟩ = some (.int .i64 0) := H1.out.cell 3 _ rfl
      have x4 : (w7.setCell ⟨v, 5, none⟩ (.slice a7 (L.length + 1) c7)).cell? ⟨x, 4, none⟩ = some (.int .i64 0) := H1.out.cell 4 _ rfl
      have x5 : (w7.setCell ⟨v, 5, none⟩ (.slice a7 (L.length + 1) c7)).cell? ⟨x, 5, none⟩ = some (.int .i64 0) := H1.out.cell 5 _ rfl
      have x6 : (w7.setCell ⟨v, 5, none⟩ (.slice a7 (L.length + 1) c7)).cell? ⟨x, 6, none⟩ = some (.int .i64 0) := H1.out.cell 6 _ rfl
      have x7 : (w7.setCell ⟨v, 5, none⟩ (.slice a7 (L.length + 1) c7)).cell? ⟨x, 7, none⟩ = some (.slice none 0 0) := H1.out.cell 7 _ rfl
      generalize w7.setCell ⟨v, 5, none⟩ (.slice a7 (L.length + 1) c7) = w8 at *
      have hN : Below w8.heap.size w8 w8 := Below.refl _ _
      clear hHeld
      refine hK.out _ _ (⟨keep_cell x0 hN, keep_cell x1 hN, keep_cell x2 hN, keep_cell x3 hN, keep_cell x4 hN, keep_cell x5 hN, keep_cell x6 hN, keep_cell x7 hN⟩) (fun hHeld => ?_)
      clear hK K
      try simp only [Act.put, List.setIfInBounds_toArray, List.set_cons_zero, List.set_cons_succ]
      refine wpAnyH_done (by kernel_rfl) ?_ _
      refine NoPanic.normal ?_
      go_wp2_with fail
      go_meet
      case rel => exact ⟨a7, c7, H2.out, H1.out, H4.out⟩
  case rest =>
    clear x0 x1 x2 x3 x4 x5 x6 x7 v5 H1 H2 H4 H6
    obtain ⟨a4, c4, hM3, hG3, hK3⟩ := hcut
    go_upto_block 0 with fail
    go_cut [] from 45 (fun wz => ∃ (t0 : ET) (N1 : List ET) (evv aw sv lv rv : Value), Hid ((L ++ t0 :: N1).map (·.1) = q.1) ∧ Hid (EvM w0.heap.size wz v j (L ++ t0 :: N1) evv q.2.1) ∧ Hid (Ents w1.heap.size wz (t0 :: N1)) ∧ Hid (DgM w1.heap.size wz x q.2.2 (.slice ca na cc) aw sv lv rv) ∧ Hid (Kp w0.heap.size w1.heap.size w1 wz))
    case first =>
      go_wp2_with fail
      go_loopg [] k (fun g wr => Hid (∃ (t0 : ET) (N1 : List ET) (d : Dg) (ov : Bool) (evv aw sv lv rv : Value), EvM w0.heap.size wr v j (L ++ t0 :: N1) evv ov ∧ Ents w1.heap.size wr (t0 :: N1) ∧ Ap aw (t0 :: N1) ∧ DgM w1.heap.size wr x d (.slice ca na cc) aw sv lv rv ∧ Kp w0.heap.size w1.heap.size w1 wr ∧ loopE (goE D fs j.fuel n) g ((L ++ t0 :: N1).map (·.1)) ov d = some q))
      case atStart => exact ⟨((begE id fn xs nn).e, .slice ca na cc, .slice none 0 0), [], begE id fn xs nn, false, _, _, _, _, _, hM3.out, (fun t m => by simp at m; subst m; exact ⟨hG3.out.args, World.ownsRow_nil _ _ _ _⟩), (fun t m g h => by cases h), hG3.out, hK3.out, (by rw [List.map_append]; exact HL.out)⟩
      case round =>
        obtain ⟨t0, N1, d, ov, evv, aw, sv, lv, rv, r1, r2, r3, r4, r5, r6⟩ := hrel.out
        have x16 : wr.cell? ⟨x, 16, none⟩ = some (.bool d.ended) := r4.cell 16 _ rfl
        have v6 : wr.cell? ⟨v, 6, none⟩ = some (.bool ov) := r1.cell 6 _ rfl
        have HR := hide r6
        have H1 := hide r1
        have H2 := hide r2
        have H3 := hide r3
        have H4 := hide r4
        have H5 := hide r5
        clear r1 r2 r3 r4 r5 r6 hrel
        cases hen : d.ended with
        | true =>
          rw [hen] at x16
          have hqe : q = ((L ++ t0 :: N1).map (·.1), ov, d) := by
            have h := HR.out
            cases gk <;> (rw [loopE, if_neg (fun z => by rw [hen] at z; cases z.1)] at h; exact (Option.some.inj h).symm)
          go_wp2_with fail
          go_meet
          case rel => rw [hqe]; exact ⟨t0, N1, evv, aw, sv, lv, rv, rfl, H1.out, H2.out, H4.out, H5.out⟩
        | false =>
          rw [hen] at x16
          cases ov with
          | true =>
            have hqe : q = ((L ++ t0 :: N1).map (·.1), true, d) := by
              have h := HR.out
              cases gk <;> (rw [loopE, if_neg (fun z => by cases z.2)] at h; exact (Option.some.inj h).symm)
            go_wp2_with fail
            go_meet
            case rel => rw [hqe]; exact ⟨t0, N1, evv, aw, sv, lv, rv, rfl, H1.out, H2.out, H4.out, H5.out⟩
          | false =>
            cases gk with
            | zero =>
              have h := HR.out
              rw [loopE, if_pos ⟨hen, rfl⟩] at h
              cases h
            | succ g =>
              have h := HR.out
              rw [loopE, if_pos ⟨hen, rfl⟩] at h
              split at h
              case h_2 => cases h
              rename_i E2 ov2 d2 hgo
              have HR2 := hide h
              have C23 := goOn_any HJ.out HE.out rfl (HB1.out.trans H5.out.below) HD.out H1.out rfl hBX H5.out HE1.out H2.out H3.out H4.out hen hgo
              unfold GoPost at C23
              clear h hgo HR
              go_wp2_with (go_at_call 23; go_must (with_reducible refine C23.mono ?_; (rintro e w3 ⟨rfl, N2, ev2, aw2, sv2, lv2, rv2, z1, z2, z3, z4, z5, z6⟩)))
              go_roundg g
              case measure => omega
              case rel => exact ⟨t0, N1 ++ N2, d2, ov2, ev2, aw2, sv2, lv2, rv2, z2, z3, z4, z5, H5.out.trans z6 (Nat.le_refl _), (by rw [show (L ++ t0 :: (N1 ++ N2)).map (·.1) = E2 from z1]; exact HR2.out)⟩
    case rest =>
      obtain ⟨t0, N1, evv, aw, sv, lv', rv, hq1, hM5, hN5, hG5, hK5⟩ := hcut
      obtain ⟨qE, qo, y⟩ := q
      simp only at hq1 hM5 hG5 ⊢
      obtain ⟨eg, ek, hev⟩ : ∃ eg ek, evv = .slice (some ⟨eg, 0, none⟩) (L ++ t0 :: N1).length ek := by
        rcases hM5.out.own.2 with ⟨q1, q2⟩ | ⟨g, cap, cur, q1, _⟩
        · simp at q2
        · exact ⟨_, cap, q1⟩
      subst hev
      obtain ⟨wa, wk, haw⟩ : ∃ wa wk, aw = .slice wa y.e.awaits.length wk := by obtain ⟨q1, q2, q3, _⟩ := own_formI hG5.out.aws; exact ⟨q1, q2, q3⟩
      subst haw
      obtain ⟨n5, hn5⟩ : ∃ n5, n5 = (L ++ t0 :: N1).length := ⟨_, rfl⟩
      have hn5' : L.length < n5 := by rw [hn5]; simp
      have hn6 : (L.length : Int) < (n5 : Int) := by omega
      have v5 : wc.cell? ⟨v, 5, none⟩ = some (.slice (some ⟨eg, 0, none⟩) n5 ek) := by rw [hn5]; exact hM5.out.cell 5 _ rfl
      have y0 : wc.cell? ⟨x, 0, none⟩ = some (.string (bs y.e.id)) := hG5.out.cell 0 _ rfl
      have y1 : wc.cell? ⟨x, 1, none⟩ = some (.int .i64 (y.e.fn : Int)) := hG5.out.cell 1 _ rfl
      have y2 : wc.cell? ⟨x, 2, none⟩ = some (.slice ca na cc) := hG5.out.cell 2 _ rfl
      have y3 : wc.cell? ⟨x, 3, none⟩ = some (.int .i64 y.e.er) := hG5.out.cell 3 _ rfl
      have y4 : wc.cell? ⟨x, 4, none⟩ = some (.int .i64 y.e.ev) := hG5.out.cell 4 _ rfl
      have y5 : wc.cell? ⟨x, 5, none⟩ = some (.int .i64 (y.e.steps : Int)) := hG5.out.cell 5 _ rfl
      have y6 : wc.cell? ⟨x, 6, none⟩ = some (.int .i64 (y.e.kids : Int)) := hG5.out.cell 6 _ rfl
      have y7 : wc.cell? ⟨x, 7, none⟩ = some (.slice wa y.e.awaits.length wk) := hG5.out.cell 7 _ rfl
      have hrow : ∀ i, i < 8 → wc.cell? ⟨eg, L.length * 8 + i, none⟩ = (rowT t0)[i]? := fun i hi => by
        obtain ⟨u, hu⟩ : ∃ u, (rowT t0)[i]? = some u := ⟨_, List.getElem?_eq_getElem (by simp [rowT, En.row]; exact hi)⟩
        have := hM5.out.own.cells (g := eg) rfl _ _ (rowsE_at (L ++ t0 :: N1) L.length i t0 u (by simp) hu)
        rw [add_none, Nat.zero_add] at this
        rw [this, hu]
      have hfz : ∀ i, wc.frozen? ⟨eg, i, none⟩ = false := fun i => hM5.out.own.frozenAt i
      have z0 := hrow 0 (by decide)
      have f0 := hfz (L.length * 8 + 0)
      have z1 := hrow 1 (by decide)
      have f1 := hfz (L.length * 8 + 1)
      have z2 := hrow 2 (by decide)
      have f2 := hfz (L.length * 8 + 2)
      have z3 := hrow 3 (by decide)
      have f3 := hfz (L.length * 8 + 3)
      have z4 := hrow 4 (by decide)
      have f4 := hfz (L.length * 8 + 4)
      have z5 := hrow 5 (by decide)
      have f5 := hfz (L.length * 8 + 5)
      have z6 := hrow 6 (by decide)
      have f6 := hfz (L.length * 8 + 6)
      have z7 := hrow 7 (by decide)
      have f7 := hfz (L.length * 8 + 7)
      clear hrow hfz
      rw [Nat.add_zero] at z0 f0
      simp only [rowT, En.row, List.getElem?_cons_zero, List.getElem?_cons_succ] at z0 z1 z2 z3 z4 z5 z6 z7
      go_wp2_with fail
      go_big_region
      show Exit.then _ _ Exit.normal _ ((wc.setCells eg (L.length * 8) [.string (bs y.e.id), .int .i64 (y.e.fn : Int), .slice ca na cc, .int .i64 y.e.er, .int .i64 y.e.ev, .int .i64 (y.e.steps : Int), .int .i64 (y.e.kids : Int), .slice wa y.e.awaits.length wk]).drew)
      have hgat : ∃ cur, wc.heap[eg]? = some (.cells cur 37 (0, 0)) := by
        rcases hM5.out.own.2 with ⟨q1, _⟩ | ⟨g, cap, cur, q1, _, q3, _⟩
        · cases q1
        · cases q1; exact ⟨cur, q3⟩
      obtain ⟨cur, hcur⟩ := hgat
      have hEl := Else.cells eg (L.length * 8) wc [.string (bs y.e.id), .int .i64 (y.e.fn : Int), .slice ca na cc, .int .i64 y.e.er, .int .i64 y.e.ev, .int .i64 (y.e.steps : Int), .int .i64 (y.e.kids : Int), .slice wa y.e.awaits.length wk]
      have hM6 : EvM w0.heap.size (wc.setCells eg (L.length * 8) [.string (bs y.e.id), .int .i64 (y.e.fn : Int), .slice ca na cc, .int .i64 y.e.er, .int .i64 y.e.ev, .int .i64 (y.e.steps : Int), .int .i64 (y.e.kids : Int), .slice wa y.e.awaits.length wk]) v j (L ++ (y.e, .slice ca na cc, .slice wa y.e.awaits.length wk) :: N1) (.slice (some ⟨eg, 0, none⟩) (L ++ t0 :: N1).length ek) qo := by
        refine ⟨(hEl v (tagNe hM5.out.at_ hcur (by decide))).trans hM5.out.at_, hM5.out.bv, ?_⟩
        have ho := own_many [.string (bs y.e.id), .int .i64 (y.e.fn : Int), .slice ca na cc, .int .i64 y.e.er, .int .i64 y.e.ev, .int .i64 (y.e.steps : Int), .int .i64 (y.e.kids : Int), .slice wa y.e.awaits.length wk] (L.length * 8) wc _ hM5.out.own
        rw [show setMany (rowsE (L ++ t0 :: N1)) (L.length * 8) [.string (bs y.e.id), .int .i64 (y.e.fn : Int), .slice ca na cc, .int .i64 y.e.er, .int .i64 y.e.ev, .int .i64 (y.e.steps : Int), .int .i64 (y.e.kids : Int), .slice wa y.e.awaits.length wk] = rowsE (L ++ (y.e, .slice ca na cc, .slice wa y.e.awaits.length wk) :: N1) from rowsE_set L N1 t0 (y.e, .slice ca na cc, .slice wa y.e.awaits.length wk)] at ho
        have e5 : (L ++ (y.e, (.slice ca na cc : Value), (.slice wa y.e.awaits.length wk : Value)) :: N1).length = (L ++ t0 :: N1).length := by simp
        rw [e5]
        exact ho
      have hG6 := hG5.out.elsO hEl hcur (by decide) (by decide) (by decide)
      have hN6 := hN5.out.els hEl hcur (by decide)
      have hK6 : Kp w0.heap.size w1.heap.size w1 (wc.setCells eg (L.length * 8) [.string (bs y.e.id), .int .i64 (y.e.fn : Int), .slice ca na cc, .int .i64 y.e.er, .int .i64 y.e.ev, .int .i64 (y.e.steps : Int), .int .i64 (y.e.kids : Int), .slice wa y.e.awaits.length wk]) := hK5.out.putE hcur (hM5.out.own.lt eg rfl).1 [.string (bs y.e.id), .int .i64 (y.e.fn : Int), .slice ca na cc, .int .i64 y.e.er, .int .i64 y.e.ev, .int .i64 (y.e.steps : Int), .int .i64 (y.e.kids : Int), .slice wa y.e.awaits.length wk]
      have hD6 := (Below.refl (wc.setCells eg (L.length * 8) [.string (bs y.e.id), .int .i64 (y.e.fn : Int), .slice ca na cc, .int .i64 y.e.er, .int .i64 y.e.ev, .int .i64 (y.e.steps : Int), .int .i64 (y.e.kids : Int), .slice wa y.e.awaits.length wk]).heap.size (wc.setCells eg (L.length * 8) [.string (bs y.e.id), .int .i64 (y.e.fn : Int), .slice ca na cc, .int .i64 y.e.er, .int .i64 y.e.ev, .int .i64 (y.e.steps : Int), .int .i64 (y.e.kids : Int), .slice wa y.e.awaits.length wk])).drew
      have HM7 := hide (hM6.below hD6)
      have HG7 := hide (hG6.kp (Kp.of (B := w0.heap.size) hD6 (Nat.le_trans hBX hK6.size)) (Nat.le_refl _))
      have HN7 := hide (hN6.kp (Kp.of (B := w0.heap.size) hD6 (Nat.le_trans hBX hK6.size)) (Nat.le_refl _))
      have HK7 := hide (hK6.below_more hD6 hK6.size hBX)
      clear hM6 hG6 hN6 hK6 hD6 hEl hcur z0 z1 z2 z3 z4 z5 z6 z7 f0 f1 f2 f3 f4 f5 f6 f7 y0 y1 y2 y3 y4 y5 y6 y7 v5 hM5 hG5 hN5 hK5
      generalize (wc.setCells eg (L.length * 8) [.string (bs y.e.id), .int .i64 (y.e.fn : Int), .slice ca na cc, .int .i64 y.e.er, .int .i64 y.e.ev, .int .i64 (y.e.steps : Int), .int .i64 (y.e.kids : Int), .slice wa y.e.awaits.length wk]).drew = w7 at *
      have y3 : w7.cell? ⟨x, 3, none⟩ = some (.int .i64 y.e.er) := HG7.out.cell 3 _ rfl
      have y4 : w7.cell? ⟨x, 4, none⟩ = some (.int .i64 y.e.ev) := HG7.out.cell 4 _ rfl
      have hrb7 : w7.heap[rb]? = some (.cells #[.int .i64 0, .int .i64 0] 34) := (HK7.out.far rb _ _ hszA HNEW.out (by decide) (by decide)).trans HNEW.out
      have n0 := cell_row (i := 0) (cs := [.int .i64 0, .int .i64 0]) hrb7 rfl
      have n1 := cell_row (i := 1) (cs := [.int .i64 0, .int .i64 0]) hrb7 rfl
      have g0 := frozen_row (i := 0) (cs := [.int .i64 0, .int .i64 0]) hrb7
      have g1 := frozen_row (i := 1) (cs := [.int .i64 0, .int .i64 0]) hrb7
      have HF := hide (show DoPost w0.heap.size v j L (qE.set L.length y.e, qo, y.e.er, y.e.ev) w (.returned (.agg #[.int .i64 y.e.er, .int .i64 y.e.ev])) ((w7.setCell ⟨rb, 0, none⟩ (.int .i64 y.e.er)).setCell ⟨rb, 1, none⟩ (.int .i64 y.e.ev)) from by
        have hx2 := heap_setCell_same _ rb 0 _ 34 (.int .i64 y.e.er) hrb7
        have E1 := Else.cell rb 0 w7 (.int .i64 y.e.er)
        have E2 := Else.cell rb 1 (w7.setCell ⟨rb, 0, none⟩ (.int .i64 y.e.er)) (.int .i64 y.e.ev)
        have a1 := (HM7.out.els E1 hrb7 (by decide) (by decide)).els E2 hx2 (by decide) (by decide)
        have a2 := (HN7.out.els E1 hrb7 (by decide)).els E2 hx2 (by decide)
        have hg := HG7.out.args
        have hent : Ents w.heap.size ((w7.setCell ⟨rb, 0, none⟩ (.int .i64 y.e.er)).setCell ⟨rb, 1, none⟩ (.int .i64 y.e.ev)) ((y.e, .slice ca na cc, .slice wa y.e.awaits.length wk) :: N1) := by
          intro t m
          rcases List.mem_cons.1 m with rfl | m
          · exact ⟨own_mono (own_else (own_else HG7.out.args E1 hrb7 (by decide)) E2 hx2 (by decide)) (by rw [HRB.out]; omega), own_mono (own_else (own_else HG7.out.aws E1 hrb7 (by decide)) E2 hx2 (by decide)) (by rw [HRB.out]; omega)⟩
          · exact ⟨own_mono (a2 t (List.mem_cons_of_mem _ m)).args (by rw [HRB.out]; omega), own_mono (a2 t (List.mem_cons_of_mem _ m)).aws (by rw [HRB.out]; omega)⟩
        refine ⟨rfl, (y.e, .slice ca na cc, .slice wa y.e.awaits.length wk) :: N1, _, ?_, a1, hent, ?_⟩
        · rw [← hq1.out]
          simp
        · rw [HRB.out]
          have k1 : Kp w0.heap.size rb w w7 := HA.out.trans HK7.out (by omega)
          exact (k1.setCell (i := 0) (Nat.le_refl _) hBw _).setCell (i := 1) (Nat.le_refl _) hBw _)
      clear HM7 HG7 HN7 HK7
      go_wp2_with fail
      have c0 : ((w7.setCell ⟨rb, 0, none⟩ (.int .i64 y.e.er)).setCell ⟨rb, 1, none⟩ (.int .i64 y.e.ev)).cell? ⟨rb, 0, none⟩ = some (.int .i64 y.e.er) := by go_simp
      have c1 : ((w7.setCell ⟨rb, 0, none⟩ (.int .i64 y.e.er)).setCell ⟨rb, 1, none⟩ (.int .i64 y.e.ev)).cell? ⟨rb, 1, none⟩ = some (.int .i64 y.e.ev) := by go_simp
      exact bodyPost_ret (v := .agg #[.int .i64 y.e.er, .int .i64 y.e.ev]) (by simp [results, Tryz.results17, go_sem, c0, c1]) rfl HF.out
theorem do_ok {B v : Nat} {w0 : World} {j : JV} {cs : List Value} {fs : List Fun} {args : List Int} (hJ : JobR w0 j cs fs args) (hE : Env w0) (hB : B = w0.heap.size) (hf : fs.length ≤ 1000000000) (hs : ∀ f ∈ fs, f.code.length ≤ 1000000000 ∧ f.name.size < 4294967281) (hC : (checkL fs j.main args.length j.fuel j.tasks).2.2 = 0) (n k : Nat) : ∀ h, DoOk B v w0 j (doE fs j.fuel j.tasks n k h)
  | 0 => fun _ _ _ _ _ _ _ _ _ _ _ _ _ _ _ _ _ hq => by cases hq
  | h + 1 => by
    have hD := do_ok hJ hE hB hf hs hC n k (v := v) h
    intro w L ev id fn xs aa na ac q hb hM hEn hr hl hnil _ hq
    have hBw : B ≤ w.heap.size := Nat.le_trans (by rw [hB]; exact Nat.le_refl _) hb.size
    unfold doE at hq
    simp only [List.length_map] at hq
    split at hq
    · rename_i ht
      cases hq
      exact do_over hM hBw ht _ _ _
    · rename_i ht
      split at hq
      case isFalse => cases hq
      rename_i hlen
      split at hq
      case h_2 => cases hq
      rename_i f hff
      split at hq
      case isFalse => cases hq
      rename_i hc
      obtain ⟨c1, c2, c3⟩ := hc
      split at hq
      case h_2 => cases hq
      rename_i E' ov x hlo
      cases hq
      exact do_go hJ hE hB hf hs hC hD hb hM hEn hr hl hnil ht hlen hff (by rw [c1, hl]) (by omega) (by omega) (by omega) hlo
end Go.Proofs.YtbpcibnomkfglaaGreatDoor
