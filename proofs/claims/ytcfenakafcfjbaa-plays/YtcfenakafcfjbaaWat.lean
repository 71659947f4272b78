/- watches, watch. -/
import Derived.Test.YtcfenakafcfjbaaMay
namespace Go.Proofs.Ytcfenakafcfjbaa
open Go.RowKit Go.ChangeShapes Go.WideShapes Go.ChangeAt Go.Deep Go.Maps

theorem look_nil_ok (x : Int) (hx : I64 x) (w : World) : (Instr.lookup 40 (.map none) (.int .i64 x) true).run Try.prog w = .ok (.tuple #[.int .i64 0, .bool false]) w := by
  rw [Maps.look_nil true law3 Try.underlying40 (zero3 w) (key3 hx)]
  rfl
theorem look_nil_no (x : Int) (hx : I64 x) (w : World) : (Instr.lookup 40 (.map none) (.int .i64 x) false).run Try.prog w = .ok (.int .i64 0) w := by
  rw [Maps.look_nil false law3 Try.underlying40 (zero3 w) (key3 hx)]
  rfl

set_option maxRecDepth 100000 in
theorem watches_any {E : Cl} {w : World} {cb N : Nat} {wt : Int} {F G : Int → Option Int} (h : BeM E w cb wt N F G) (x : Int) (hx : I64 x) :
    Calls Try.prog 24 #[.pointer (some ⟨cb, 0, none⟩), .int .i64 x] w fun e w' => e = .returned (.bool (F x).isSome) ∧ w' = w := by
  obtain ⟨h1, h2, hw, v1, v2, hB, hF, hG, h6⟩ := h
  obtain ⟨c1, f1⟩ := hB.at (o := 1) rfl
  rcases hF with ⟨rfl, hF⟩ | ⟨b, D, rfl, hown, hz, hF⟩
  · have hl := look_nil_ok x hx
    have HH := hide (hF x hx)
    clear hF hB hG h6 h1
    go_enter Try.func24, Try.ntmps24
    go_wp2
    go_ret
    exact ⟨ret_b (by rw [HH.out]; rfl), rfl⟩
  · have hk := key3 hx
    have HH := hide (hF x hx).1
    clear hF hB hG h6 h1
    go_enter Try.func24, Try.ntmps24
    go_wp2_with (at_lookup; refine wpList_lookup_own_ok_int _ rfl _ _ 40 rfl 3 3 .i64 law3 Try.underlying40 Try.underlying3 (zero3 _) b _ D rfl hown _ _ rfl hk ?_; intro c hat hwc; have HAT := hide hat; clear hat)
    go_ret
    exact ⟨ret_b HH.out, rfl⟩

/-- Both maps are written at one key. -/
theorem both_put {w : World} {b1 b2 N : Nat} {F G : Int → Option Int} {x life now : Int} (hF : MapI w (.map (some b1)) N F) (hG : MapI w (.map (some b2)) N G) (hne : b1 ≠ b2) (hN : N ≤ 100000) (hx : I64 x) (hl : I64 life) (hn : I64 now) :
    ∃ (u1 u2 : Value) (s1 s2 : Nat) (w1 w2 w3 w4 : World), (Instr.mapEntry 40 (.map (some b1)) (.int .i64 x)).run Try.prog w = .ok (.tuple #[u1, .int .i64 (s1 : Int)]) w1 ∧
      (Instr.entryStore 40 (.map (some b1)) (.int .i64 (s1 : Int)) (.int .i64 now)).run Try.prog w1 = .ok () w2 ∧
      (Instr.mapEntry 40 (.map (some b2)) (.int .i64 x)).run Try.prog w2 = .ok (.tuple #[u2, .int .i64 (s2 : Int)]) w3 ∧
      (Instr.entryStore 40 (.map (some b2)) (.int .i64 (s2 : Int)) (.int .i64 life)).run Try.prog w3 = .ok () w4 ∧
      MapI w4 (.map (some b1)) (N + 1) (upd F x now) ∧ MapI w4 (.map (some b2)) (N + 1) (upd G x life) ∧ Kp (fun k => k = b1 ∨ k = b2) w w4 := by
  rcases hF with ⟨e, _⟩ | ⟨b, D1, e, o1, z1, f1⟩
  · cases e
  cases e
  rcases hG with ⟨e, _⟩ | ⟨b, D2, e, o2, z2, f2⟩
  · cases e
  cases e
  obtain ⟨u1, s1, w1, r1, q1⟩ := entry_pair law3 Try.underlying40 zero3 o1 (by unfold maxLen; omega) (key3 hx)
  obtain ⟨w2, r2, p1, g1⟩ := q1 _ _ _ (pe3 hn)
  have o2' := o2.kept g1 (by simpa using hne.symm)
  obtain ⟨u2, s2, w3, r3, q2⟩ := entry_pair law3 Try.underlying40 zero3 o2' (by unfold maxLen; omega) (key3 hx)
  obtain ⟨w4, r4, p2, g2⟩ := q2 _ _ _ (pe3 hl)
  refine ⟨u1, u2, s1, s2, w1, w2, w3, w4, r1, r2, r3, r4, mapI_put (o1.tidy law3) z1 f1 (p1.kept g2 (by simpa using hne)), mapI_put (o2.tidy law3) z2 f2 p2, ?_⟩
  exact (Kp.ofG g1 (fun k e => .inl (by cases e; rfl))).trans (Kp.ofG g2 (fun k e => .inr (by cases e; rfl)))

set_option maxRecDepth 100000 in
set_option maxHeartbeats 2000000 in
theorem watch_any {E : Cl} {w : World} {cb N : Nat} {wt : Int} {F G : Int → Option Int} (h : BeM E w cb wt N F G) (hN : N ≤ 100000) (x life now : Int) (hx : I64 x) (hl : I64 life) (hn : I64 now) :
    Calls Try.prog 20 #[.pointer (some ⟨cb, 0, none⟩), .int .i64 x, .int .i64 life, .int .i64 now] w fun e w' => e = .returned (.tuple #[]) ∧ ∃ E', BeM E' w' cb wt (N + 1) (upd F x now) (upd G x life) ∧ Stp E E' w w' := by
  obtain ⟨h1, h2, hw, v1, v2, hB, hF, hG, h6⟩ := h
  rcases h6 with ⟨rfl, rfl⟩ | ⟨b1, b2, rfl, rfl, e1, e2, hne⟩
  · have hmm := @run_makeMap Try.prog
    have heq : ∀ w, (binOp .eql 40 (.map none) (.map none)).run Try.prog w = .ok (.bool true) w := fun w => run_eql_map_nil w 40 3 3 none Try.underlying40
    have hm1 := World.ownsMap_made (H := Unit) w Try.prog 3 PE
    have hm2 := World.ownsMap_made (H := Unit) (w.alloc (.map #[] 0)) Try.prog 3 PE
    have hs1 : (w.alloc (.map #[] 0)).heap.size = w.heap.size + 1 := by simp
    have hbl := (below_new w (.map #[] 0)).trans ((below_new (w.alloc (.map #[] 0)) (.map #[] 0)).mono (by omega))
    have hcb := hB.1
    obtain ⟨c1, f1⟩ := hB.at (o := 1) rfl
    obtain ⟨c2, f2⟩ := hB.at (o := 2) rfl
    have hB2 := hB.below hbl
    have hB3 := hB2.put 1 (.map (some w.heap.size))
    have hB4 := hB3.put 2 (.map (some (w.heap.size + 1)))
    simp only [List.set_cons_succ, List.set_cons_zero] at hB3 hB4
    obtain ⟨g1, g1'⟩ := hB2.at (o := 1) rfl
    obtain ⟨g2, g2'⟩ := hB2.at (o := 2) rfl
    obtain ⟨g3, g3'⟩ := hB3.at (o := 2) rfl
    rw [hs1] at hm2
    have hm1' := hm1.alloc (.map #[] 0)
    have hF1 : ∀ F0 : Int → Option Int, (∀ z, I64 z → F0 z = none) → ∀ (W : World) b, W.ownsMap Try.prog 3 PE b 0 (.map []) → MapI W (.map (some b)) 0 F0 := fun F0 h0 W b ho => .inr ⟨b, .map [], rfl, ho, Nat.le_refl _, fun z hz => by rw [h0 z hz]; exact ⟨rfl, rfl⟩⟩
    have hF0 : ∀ z, I64 z → F z = none := by
      rcases hF with ⟨_, hF⟩ | ⟨b, D, e, _⟩
      · exact hF
      · cases e
    have hG0 : ∀ z, I64 z → G z = none := by
      rcases hG with ⟨_, hG⟩ | ⟨b, D, e, _⟩
      · exact hG
      · cases e
    obtain ⟨W, hW⟩ : ∃ W, W = (((w.alloc (.map #[] 0)).alloc (.map #[] 0)).setCell ⟨cb, 1, none⟩ (.map (some w.heap.size))).setCell ⟨cb, 2, none⟩ (.map (some (w.heap.size + 1))) := ⟨_, rfl⟩
    have k1 := (hm1'.setCell (a := ⟨cb, 1, none⟩) (by simp; omega) (.map (some w.heap.size))).setCell (a := ⟨cb, 2, none⟩) (by simp; omega) (.map (some (w.heap.size + 1)))
    have k2 := (hm2.setCell (a := ⟨cb, 1, none⟩) (by simp; omega) (.map (some w.heap.size))).setCell (a := ⟨cb, 2, none⟩) (by simp; omega) (.map (some (w.heap.size + 1)))
    have hKp : Kp (fun k => k = cb) w W := by
      rw [hW]
      exact (Kp.ofB hbl).trans ((Kp.ofG (grown_setCell _ cb 1 _) (fun k e => by cases e; rfl)).trans (Kp.ofG (grown_setCell _ cb 2 _) (fun k e => by cases e; rfl)))
    have hsW : W.heap.size = w.heap.size + 2 := by rw [hW]; simp
    rw [← hW] at k1 k2 hB4
    have hBd : BoxL W.drew cb [.int .i64 wt, .map (some w.heap.size), .map (some (w.heap.size + 1))] := hB4
    obtain ⟨d1, _⟩ := hBd.at (o := 1) rfl
    obtain ⟨d2, _⟩ := hBd.at (o := 2) rfl
    have hFd : MapI W.drew (.map (some w.heap.size)) 0 F := hF1 F hF0 W _ k1
    have hGd : MapI W.drew (.map (some (w.heap.size + 1))) 0 G := hF1 G hG0 W _ k2
    obtain ⟨u1, u2, s1, s2, w1, w2, w3, w4, r1, r2, r3, r4, m1, m2, hk⟩ := both_put hFd hGd (by omega) (by omega) hx hl hn
    have HM := hide (show BeM (fun k => E k ∨ k = w.heap.size ∨ k = w.heap.size + 1) w4 cb wt (N + 1) (upd F x now) (upd G x life) from by
      have hsz : W.heap.size ≤ w4.heap.size := hk.size
      refine ⟨fun k hk1 => ?_, .inl h2, hw, _, _, hB4.keep hsz (hk.block cb hB4.1 (by rintro (e | e) <;> omega)), m1.mono (by omega), m2.mono (by omega), .inr ⟨_, _, rfl, rfl, .inr (.inl rfl), .inr (.inr rfl), by omega⟩⟩
      rcases hk1 with hk1 | rfl | rfl
      · have := h1 k hk1; omega
      · omega
      · omega)
    have HS := hide (show Stp E (fun k => E k ∨ k = w.heap.size ∨ k = w.heap.size + 1) w w4 from by
      have hk' : Kp (fun k => k = w.heap.size ∨ k = w.heap.size + 1) W w4 := ⟨hk.os, hk.tape, hk.output, hk.size, hk.block⟩
      refine ⟨⟨hk'.os.trans hKp.os, hk'.tape.trans hKp.tape, hk'.output.trans hKp.output, Nat.le_trans hKp.size hk'.size, fun k hk1 hk2 => ?_⟩, fun k hk1 => ⟨?_, .inl⟩⟩
      · rw [hk'.block k (by omega) (by rintro (e | e) <;> omega), hKp.block k hk1 (by rintro rfl; exact hk2 h2)]
      · rintro (e | e | e)
        · exact e
        · omega
        · omega)
    have hW2 : W = (((w.setCell ⟨cb, 1, none⟩ (.map (some w.heap.size))).setCell ⟨cb, 2, none⟩ (.map (some (w.heap.size + 1)))).alloc (.map #[] 0)).alloc (.map #[] 0) := by rw [hW]; simp [hcb, go_sem]
    have HW := hide hW2
    clear hF hG hF1 hF0 hG0 hFd hGd h1 hk m1 m2 hKp hW hW2 k1 k2 hm1 hm2 hm1' hB2 hB3 hB4 hBd hbl hsW
    go_enter Try.func20, Try.ntmps20
    go_upto_region 2 with fail
    rw [← HW.out]
    go_big_region
    go_wp2
    exact bodyPost_end (results_none rfl _ _ _) rfl ⟨rfl, _, HM.out, HS.out⟩
  · have hBd : BoxL w.drew cb [.int .i64 wt, .map (some b1), .map (some b2)] := hB
    obtain ⟨c1, f1⟩ := hB.at (o := 1) rfl
    obtain ⟨d1, _⟩ := hBd.at (o := 1) rfl
    obtain ⟨d2, _⟩ := hBd.at (o := 2) rfl
    have hFd : MapI w.drew (.map (some b1)) N F := hF
    have hGd : MapI w.drew (.map (some b2)) N G := hG
    have heq : ∀ w, (binOp .eql 40 (.map (some b1)) (.map none)).run Try.prog w = .ok (.bool false) w := fun w => run_eql_map_nil w 40 3 3 (some b1) Try.underlying40
    obtain ⟨u1, u2, s1, s2, w1, w2, w3, w4, r1, r2, r3, r4, m1, m2, hk⟩ := both_put hFd hGd hne hN hx hl hn
    have n1 : b1 ≠ cb := by
      rcases hF with ⟨e, _⟩ | ⟨b, D, e, o, _⟩
      · cases e
      · cases e; exact box_not_map o hB (o := 1) rfl
    have n2 : b2 ≠ cb := by
      rcases hG with ⟨e, _⟩ | ⟨b, D, e, o, _⟩
      · cases e
      · cases e; exact box_not_map o hB (o := 2) rfl
    have HK := hide hk
    have HM := hide (show BeM E w4 cb wt (N + 1) (upd F x now) (upd G x life) from by
      have hk' : ∀ k, k < w.heap.size → k ≠ b1 → k ≠ b2 → w4.heap[k]? = w.heap[k]? := fun k hk1 a b => hk.block k hk1 (by simp; exact ⟨a, b⟩)
      refine ⟨fun k hk1 => Nat.lt_of_lt_of_le (h1 k hk1) hk.size, h2, hw, _, _, hB.keep hk.size (hk' cb hB.1 n1.symm n2.symm), m1, m2, .inr ⟨b1, b2, rfl, rfl, e1, e2, hne⟩⟩)
    have HS := hide (show Stp E E w w4 from ⟨⟨hk.os, hk.tape, hk.output, hk.size, fun k hk1 hk2 => hk.block k hk1 (by rintro (rfl | rfl); exact hk2 e1; exact hk2 e2)⟩, fun _ _ => Iff.rfl⟩)
    clear hF hG hFd hGd h1 hk m1 m2 hne
    go_enter Try.func20, Try.ntmps20
    go_upto_region 2 with fail
    go_big_region
    go_wp2
    exact bodyPost_end (results_none rfl _ _ _) rfl ⟨rfl, E, HM.out, HS.out⟩
end Go.Proofs.Ytcfenakafcfjbaa
