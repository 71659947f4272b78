/- Heard, Life. -/
import Derived.Test.YtcfenakafcfjbaaWat
namespace Go.Proofs.Ytcfenakafcfjbaa
open Go.RowKit Go.ChangeShapes Go.WideShapes Go.ChangeAt Go.Deep Go.Maps

theorem MapI.look {w : World} {v : Value} {N : Nat} {F : Int → Option Int} (h : MapI w v N F) {x : Int} (hx : I64 x) :
    (Instr.lookup 40 v (.int .i64 x) true).run Try.prog w = .ok (.tuple #[.int .i64 ((F x).getD 0), .bool (F x).isSome]) w ∧ (Instr.lookup 40 v (.int .i64 x) false).run Try.prog w = .ok (.int .i64 ((F x).getD 0)) w := by
  rcases h with ⟨rfl, hF⟩ | ⟨b, D, rfl, hown, hz, hF⟩
  · rw [hF x hx]
    exact ⟨look_nil_ok x hx w, look_nil_no x hx w⟩
  · obtain ⟨h1, h2⟩ := hF x hx
    obtain ⟨v, ps, hrun, hv⟩ := hown.look_ok law3 Try.underlying40 (zero3 w) (zd := .lit (.int .i64 0)) (zp := []) (pe3 (by unfold I64; omega)) (key3 hx)
    obtain ⟨c, rfl, hc, hwc⟩ := plainElem_int_inv Try.underlying3 hv
    obtain ⟨c', hrun', hat', _⟩ := hown.lookup_int law3 Try.underlying40 Try.underlying3 (zero3 w) (key3 hx)
    rw [h2] at hc hat'
    have e1 : (F x).getD 0 = c := by simpa using congrArg Prod.fst hc
    have e2 : (F x).getD 0 = c' := by simpa using hat'
    rw [h1] at hrun
    subst e1
    rw [← e2] at hrun'
    exact ⟨hrun, hrun'⟩
theorem MapI.nn {w : World} {v : Value} {N : Nat} {F : Int → Option Int} (h : MapI w v N F) {x : Int} (hx : I64 x) (h0 : (F x).isSome = true) : ∃ b, v = .map (some b) := by
  rcases h with ⟨rfl, hF⟩ | ⟨b, D, rfl, _⟩
  · rw [hF x hx] at h0; cases h0
  · exact ⟨b, rfl⟩

theorem reads1 (w : World) (x : Int) : Reads (w.alloc (.cells #[.int .i64 x] 3)) (some ⟨w.heap.size, 0, none⟩) (iV [x]) := reads_new w [.int .i64 x] 3
theorem reads2 (w : World) (x y : Int) : Reads (w.alloc (.cells #[.int .i64 x, .int .i64 y] 3)) (some ⟨w.heap.size, 0, none⟩) (iV [x, y]) := reads_new w [.int .i64 x, .int .i64 y] 3

theorem max_eq_left' {a b : Int} (h : b ≤ a) : max a b = a := by omega
theorem max_eq_right' {a b : Int} (h : ¬ b ≤ a) : max a b = b := by omega
def heardQ (F G : Int → Option Int) (x life now : Int) : Bool := (F x).isSome && decide (life = (G x).getD 0) && okT now
def heardF (F G : Int → Option Int) (x life now : Int) : Int → Option Int := if heardQ F G x life now then upd F x (max ((F x).getD 0) now) else F

set_option maxRecDepth 100000 in
set_option maxHeartbeats 2000000 in
theorem heard_no {E : Cl} {w : World} {cb N : Nat} {wt : Int} {F G : Int → Option Int} (h : BeM E w cb wt N F G) (x life now : Int) (hx : I64 x) (hq : heardQ F G x life now = false) :
    Calls Try.prog 9 #[.pointer (some ⟨cb, 0, none⟩), .int .i64 x, .int .i64 life, .int .i64 now] w fun e w' => e = .returned (.bool false) ∧ Below w.heap.size w w' := by
  obtain ⟨h1, h2, hw, v1, v2, hB, hF, hG, h6⟩ := h
  obtain ⟨c1, f1⟩ := hB.at (o := 1) rfl
  obtain ⟨c2, f2⟩ := hB.at (o := 2) rfl
  have l1 := (hF.look hx).1
  have l2 := (hG.look hx).2
  have C22 := hide (may_any (w.alloc (.cells #[.int .i64 now] 3)) [now] (some ⟨w.heap.size, 0, none⟩) 1 1 rfl (by omega) (reads1 w now))
  have HB := hide (below_new w (.cells #[.int .i64 now] 3))
  have e : [now].all okT = okT now := by simp
  rw [e] at C22
  have HQ := hide hq
  unfold heardQ at HQ
  generalize okT now = q3 at C22 HQ
  generalize (F x).getD 0 = t at l1
  generalize (G x).getD 0 = g at l2 HQ
  clear hF hG h6 h1 hB e hq
  cases hq1 : (F x).isSome
  · rw [hq1] at l1
    have HX := hide hq1
    clear hq1
    go_enter Try.func9, Try.ntmps9
    go_wp2
    go_ret
    exact ⟨rfl, Below.refl _ _⟩
  · rw [hq1] at l1 HQ
    have HX := hide hq1
    clear hq1
    by_cases hg : life = g
    · have t1 : (life != g) = false := by simp [hg]
      obtain rfl : q3 = false := by have := HQ.out; simpa [hg] using this
      have HGG := hide hg
      clear hg
      go_enter Try.func9, Try.ntmps9
      go_wp2_with (go_at_call 22; go_must ((with_reducible refine C22.out.mono ?_); rintro e w1 ⟨rfl, hw1⟩; subst hw1))
      go_ret
      exact ⟨rfl, HB.out⟩
    · have t1 : (life != g) = true := by simp [hg]
      have HGG := hide hg
      clear hg
      go_enter Try.func9, Try.ntmps9
      go_wp2
      go_ret
      exact ⟨rfl, Below.refl _ _⟩

set_option maxRecDepth 100000 in
set_option maxHeartbeats 2000000 in
theorem heard_yes {E : Cl} {w : World} {cb N : Nat} {wt : Int} {F G : Int → Option Int} (h : BeM E w cb wt N F G) (hN : N ≤ 100000) (x life now : Int) (hx : I64 x) (hn : I64 now) (ht : I64 ((F x).getD 0)) (hq : heardQ F G x life now = true) :
    Calls Try.prog 9 #[.pointer (some ⟨cb, 0, none⟩), .int .i64 x, .int .i64 life, .int .i64 now] w fun e w' => e = .returned (.bool true) ∧ BeM E w' cb wt (N + 1) (upd F x (max ((F x).getD 0) now)) G ∧ Stp E E w w' := by
  obtain ⟨h1, h2, hw, v1, v2, hB, hF, hG, h6⟩ := h
  obtain ⟨c1, f1⟩ := hB.at (o := 1) rfl
  obtain ⟨c2, f2⟩ := hB.at (o := 2) rfl
  have l1 := (hF.look hx).1
  have l2 := (hG.look hx).2
  have C22 := hide (may_any (w.alloc (.cells #[.int .i64 now] 3)) [now] (some ⟨w.heap.size, 0, none⟩) 1 1 rfl (by omega) (reads1 w now))
  have hbl := below_new w (.cells #[.int .i64 now] 3)
  have e : [now].all okT = okT now := by simp
  rw [e] at C22
  unfold heardQ at hq
  simp only [Bool.and_eq_true, decide_eq_true_eq] at hq
  obtain ⟨⟨q1, q2⟩, q3⟩ := hq
  rw [q1] at l1
  rw [q3] at C22
  rw [← q2] at l2
  have t1 : (life != life) = false := by simp
  obtain ⟨b1, rfl⟩ := hF.nn hx q1
  rcases h6 with ⟨e, _⟩ | ⟨b1', b2, e1, rfl, g1, g2, hne⟩
  · cases e
  cases e1
  rcases hF with ⟨e, _⟩ | ⟨b, D1, e, o1, z1, f1'⟩
  · cases e
  cases e
  have hnm : b1 ≠ cb := box_not_map o1 hB (o := 1) rfl
  have o1' := o1.kept (w' := w.alloc (.cells #[.int .i64 now] 3)) (row := none) (World.grownBy_alloc _ _ _) (by simp)
  have hI : I64 (max ((F x).getD 0) now) := by unfold I64 at *; omega
  have hval := pe3 hI
  have hk := key3 hx
  have HF := hide (fun (w' : World) (p : w'.ownsMap Try.prog 3 PE b1 (Maps.size D1 + 1) (D1.put (.int .i64 x) (.lit (.int .i64 (max ((F x).getD 0) now))))) (g : (w.alloc (.cells #[.int .i64 now] 3)).grownBy w' (some b1)) =>
    show BeM E w' cb wt (N + 1) (upd F x (max ((F x).getD 0) now)) G ∧ Stp E E w w' from by
      have hk' : Kp (fun k => k = b1) w w' := (Kp.ofB hbl).trans (Kp.ofG g (fun k e => by cases e; rfl))
      refine ⟨⟨fun k hk1 => Nat.lt_of_lt_of_le (h1 k hk1) hk'.size, h2, hw, _, _, hB.keep hk'.size (hk'.block cb hB.1 (fun e => hnm e.symm)), mapI_put (o1.tidy law3) z1 f1' p, (hG.keep (fun b e => by cases e; exact hk'.block _ hG.lt hne.symm)).mono (by omega), .inr ⟨_, _, rfl, rfl, g1, g2, hne⟩⟩, ⟨⟨hk'.os, hk'.tape, hk'.output, hk'.size, fun k hk1 hk2 => hk'.block k hk1 (fun e => hk2 (by rw [e]; exact g1))⟩, fun _ _ => Iff.rfl⟩⟩)
  have HZ := hide (show Maps.size D1 < maxLen by unfold maxLen; omega)
  have d1 := keep_cell c1 hbl
  have o1'' := hide o1'
  generalize (F x).getD 0 = t at l1 hval HF
  clear hG h1 hB q1 q2 q3 z1 f1' hI ht h2 hw g1 g2 hne o1 o1'
  go_enter Try.func9, Try.ntmps9
  go_upto_region 4 with (go_at_call 22; go_must ((with_reducible refine C22.out.mono ?_); rintro e w1 ⟨rfl, hw1⟩; subst hw1))
  by_cases hle : now ≤ t
  · rw [max_eq_left' hle] at hval HF
    go_wp2_with (at_mapUpdate; refine wpList_mapUpdate_own _ rfl _ _ _ 40 rfl 3 3 law3 Try.underlying40 _ b1 _ D1 rfl o1''.out HZ.out _ _ _ rfl rfl hk _ [] hval ?_; intro w2 hown2 hgrow2; have HR := hide (HF.out w2 hown2 hgrow2); clear hown2 hgrow2)
    go_ret
    exact ⟨rfl, by rw [max_eq_left' hle]; exact HR.out.1, HR.out.2⟩
  · rw [max_eq_right' hle] at hval HF
    go_wp2_with (at_mapUpdate; refine wpList_mapUpdate_own _ rfl _ _ _ 40 rfl 3 3 law3 Try.underlying40 _ b1 _ D1 rfl o1''.out HZ.out _ _ _ rfl rfl hk _ [] hval ?_; intro w2 hown2 hgrow2; have HR := hide (HF.out w2 hown2 hgrow2); clear hown2 hgrow2)
    go_ret
    exact ⟨rfl, by rw [max_eq_right' (by omega)]; exact HR.out.1, HR.out.2⟩

set_option maxRecDepth 100000 in
set_option maxHeartbeats 1000000 in
theorem life_any {E : Cl} {w : World} {cb N : Nat} {wt : Int} {F G : Int → Option Int} (h : BeM E w cb wt N F G) (x : Int) (hx : I64 x) :
    Calls Try.prog 16 #[.pointer (some ⟨cb, 0, none⟩), .int .i64 x] w fun e w' => e = .returned (.tuple #[.int .i64 (if (F x).isSome then (G x).getD 0 else 0), .bool (F x).isSome]) ∧ w' = w := by
  have C24 := hide (watches_any h x hx)
  obtain ⟨h1, h2, hw, v1, v2, hB, hF, hG, h6⟩ := h
  obtain ⟨c2, f2⟩ := hB.at (o := 2) rfl
  have l2 := (hG.look hx).2
  generalize (G x).getD 0 = g at l2
  generalize (F x).isSome = q at C24
  clear hF hG h6 h1 hB
  cases q
  · go_enter Try.func16, Try.ntmps16
    go_wp2_with (go_at_call 24; go_must ((with_reducible refine C24.out.mono ?_); rintro e w1 ⟨rfl, hw1⟩; subst hw1))
    go_ret2
    exact ⟨rfl, rfl⟩
  · go_enter Try.func16, Try.ntmps16
    go_wp2_with (go_at_call 24; go_must ((with_reducible refine C24.out.mono ?_); rintro e w1 ⟨rfl, hw1⟩; subst hw1))
    go_ret2
    exact ⟨rfl, rfl⟩
end Go.Proofs.Ytcfenakafcfjbaa
