/- The document's deque: Items. -/
import Derived.Test.YtaooglcjcnkgnaaRsv
namespace Go.Proofs.Ytaooglcjcnkgnaa
open Go.RowKit Go.ChangeShapes Go.WideShapes Go.ChangeAt Go.Deep

set_option maxRecDepth 100000 in
set_option maxHeartbeats 1000000 in
theorem ritems_any (w : World) (cb rb g : Nat) (d : Dq) (h : RQ w cb rb g d) (hs : Sml 400000 d) : Calls Try.prog 22 #[.pointer (some ⟨cb, 0, none⟩)] w fun e w' => ∃ a n c, e = .returned (.slice a n c) ∧ n = (itemsD d).length ∧ w'.ownsRow w.heap.size 3 1 (.slice a n c) n (iV (itemsD d)) ∧ Below w.heap.size w w' := by
  obtain ⟨ct, ft⟩ := h.top
  obtain ⟨cbt, fbt⟩ := h.bot
  obtain ⟨cr, fr⟩ := h.rp
  obtain ⟨ht1, ht2⟩ := hs.top
  obtain ⟨hb1, hb2⟩ := hs.bot
  obtain ⟨n, hn⟩ : ∃ n, n = (d.bot - d.top).toNat := ⟨_, rfl⟩
  obtain ⟨tp, htp⟩ : ∃ tp, tp = d.top := ⟨_, rfl⟩
  obtain ⟨bt, hbt⟩ : ∃ bt, bt = d.bot := ⟨_, rfl⟩
  have HL := hide (show (itemsD d).length = n by rw [hn]; simp [itemsD])
  have HX := hide (show ∀ k, k < n → (itemsD d)[k]? = some (d.L.getD (plc d.n (tp + (k : Int))) 0) by
    intro k hk
    rw [hn] at hk
    rw [htp]
    simp [itemsD, hk])
  have CG := hide (fun (W : World) (hb : Below w.heap.size w W) (i : Int) => rget_any W rb 0 g d.n d.L i (h.ring.below hb))
  rw [← htp] at ct ht1 ht2 hn
  rw [← hbt] at cbt hb1 hb2 hn
  have hnb : n ≤ 800000 := by omega
  have HE1 := hide hn
  clear hs h htp hbt hn ft fbt fr
  generalize itemsD d = xs at *
  go_enter Try.func22, Try.ntmps22
  go_wp2
  go_loopw [3, 4] (fun o i wr => Hid (Below w.heap.size w wr) ∧ ∃ (k : Nat) (a : Option Addr) (c : Nat), k ≤ n ∧ o = .slice a k c ∧ i = .int .i64 (tp + (k : Int)) ∧ Hid (wr.ownsRow w.heap.size 3 1 (.slice a k c) k (iV (xs.take k)))) (fun _ i _ => n - (intOf i - tp).toNat)
  case atStart => exact ⟨Below.refl _ _, 0, none, 0, Nat.zero_le _, rfl, by simp, hide (by simpa [iV] using World.ownsRow_nil _ _ _ _)⟩
  case round =>
    obtain ⟨HBw, k, a, c, hk, rfl, rfl, HO⟩ := hrel
    have ct' := keep_cell ct HBw.out
    have cbt' := keep_cell cbt HBw.out
    have cr' := keep_cell cr HBw.out
    by_cases hlt : k < n
    · have hlt2 : tp + (k : Int) < bt := by have := HE1.out; omega
      have HXk := hide (HX.out k hlt)
      have C32 := hide (CG.out _ HBw.out (tp + (k : Int)))
      generalize d.L.getD (plc d.n (tp + (k : Int))) 0 = x at *
      rename_i wr _ _
      go_wp2_with (first
        | (go_at_call 33; go_must ((with_reducible refine C32.out.mono ?_); rintro e w3 ⟨rfl, u, rfl⟩))
        | (at_builtin; go_must (refine append_ints rfl (.tmp 17) (.tmp 24) rfl w.heap.size (.slice a k c) k (xs.take k) rfl (own_below (own_below HO.out (below_drewN (Below.refl _ _) u)) (below_new _ _)) (some ⟨(wr.drewN u).heap.size, 0, none⟩) 1 1 [x] rfl (fun h => by cases h) rfl (reads_new (wr.drewN u) (iV [x]) 3) (by omega) (by have := HBw.out.size; simp; omega) ?_; intro v' w4 ho4 hg4; obtain ⟨a', c', rfl, -, -⟩ := own_form ho4; have HO4 := hide ho4; have HB4 := hide (((below_drewN HBw.out u).alloc (below_drewN HBw.out u).size (.cells #[.int .i64 x] 3)).grown hg4 (by have := HBw.out.size; simp; omega) (own_low HO.out)); clear ho4 hg4)))
      go_roundw
      case rel =>
        refine ⟨HB4, k + 1, a', c', by omega, rfl, by go_num, hide ?_⟩
        rw [take_more HXk.out]
        exact HO4.out
      case measure => simp [intOf]; omega
    · obtain rfl : k = n := by omega
      have hge : ¬ tp + (k : Int) < bt := by have := HE1.out; omega
      go_wp2
      go_ret
      have h1 := HO.out
      rw [List.take_of_length_le (by rw [HL.out]; exact Nat.le_refl _)] at h1
      exact ⟨a, k, c, rfl, HL.out.symm, h1, HBw.out⟩

theorem own_block {w w' : World} {B g n c : Nat} {xs : List Value} (h : w.ownsRow B 3 1 (.slice (some ⟨g, 0, none⟩) n c) n xs) (hb : w'.heap[g]? = w.heap[g]?) : w'.ownsRow B 3 1 (.slice (some ⟨g, 0, none⟩) n c) n xs := by
  refine ⟨h.1, ?_⟩
  rcases h.2 with h1 | ⟨g2, cap, cur, e, h1, h2, h3⟩
  · exact .inl h1
  · refine .inr ⟨g2, cap, cur, e, h1, ?_, h3⟩
    simp only [Value.slice.injEq, Option.some.injEq, Addr.mk.injEq, and_true, true_and] at e
    rw [← e.1, hb, e.1]
    exact h2

/-- What a call of one object leaves of another one. -/
theorem DqM.wr {w w' : World} {ob og cb g : Nat} {d : Dq} (h : DqM w ob og d) (hW : Wr cb g w w') (h1 : ob ≠ cb) (h2 : ob ≠ g) (h3 : og ≠ cb) (h4 : og ≠ g) : DqM w' ob og d := by
  have hl := h.lt
  have hb1 := hW.block ob hl.1 h1 h2
  have hb2 := hW.block og hl.2 h3 h4
  refine ⟨h.bx.keep hb1, h.pow, h.len, ?_, h.ne⟩
  exact own_block h.own hb2
theorem RQ.wr {w w' : World} {qb rb rg cb g : Nat} {d : Dq} (h : RQ w qb rb rg d) (hW : Wr cb g w w') (h1 : qb ≠ cb) (h2 : qb ≠ g) (h3 : rb ≠ cb) (h4 : rb ≠ g) (h5 : rg ≠ cb) (h6 : rg ≠ g) : RQ w' qb rb rg d := by
  have hl := h.lt
  have hb1 := hW.block qb hl.1 h1 h2
  have hb2 := hW.block rb hl.2.1 h3 h4
  have hb3 := hW.block rg hl.2.2 h5 h6
  refine ⟨h.bx.keep hb1, ⟨h.ring.pow, h.ring.len, ?_, own_block h.ring.own hb3, h.ring.ne⟩, h.n1, h.n2⟩
  rw [World.cell?_of_block (w := w) (a := ⟨rb, 0, none⟩) hb2]
  exact h.ring.box
theorem BoxL.wr {w w' : World} {ab cb g : Nat} {xs : List Value} (h : BoxL w ab xs) (hW : Wr cb g w w') (h1 : ab ≠ cb) (h2 : ab ≠ g) : BoxL w' ab xs := h.keep hW.size (hW.block ab h.1 h1 h2)
theorem below_wr {B cb g : Nat} {w0 w w' : World} (h : Below B w0 w) (hB : B ≤ w.heap.size) (hW : Wr cb g w w') (h1 : B ≤ cb) (h2 : B ≤ g) : Below B w0 w' :=
  ⟨hW.os.trans h.os, hW.tape.trans h.tape, hW.output.trans h.output, Nat.le_trans h.size hW.size, fun k hk => (hW.block k (by omega) (by omega) (by omega)).trans (h.block k hk)⟩
end Go.Proofs.Ytaooglcjcnkgnaa
