/- Out, New. -/
import Derived.Test.YtcfenakafcfjbaaOut
namespace Go.Proofs.Ytcfenakafcfjbaa
open Go.RowKit Go.ChangeShapes Go.WideShapes Go.ChangeAt Go.Deep Go.Maps

def outF (F : Int → Option Int) (l : List Int) : Int → Option Int := l.foldl rem F
def newF (l : List Int) : Int → Option Int := l.foldl (fun F x => upd F x 0) (fun _ => none)
def newG (l : List Int) : Int → Option Int := l.foldl (fun F x => upd F x 1) (fun _ => none)
theorem take_more {xs : List Int} {k : Nat} {x : Int} (h : xs[k]? = some x) : xs.take (k + 1) = xs.take k ++ [x] := by
  rw [List.take_add_one, h]; rfl

set_option maxRecDepth 100000 in
set_option maxHeartbeats 2000000 in
theorem out_any {E : Cl} {w : World} {cb N : Nat} {wt : Int} {F G : Int → Option Int} (h : BeM E w cb wt N F G) (l : List Int) (a : Option Addr) (n c : Nat) (hl : l.length = n) (hn : n ≤ 20000) (hi : In64 l) (ra : Reads w a (iV l)) (hE : ∀ b, a.map (·.block) = some b → ¬ E b) :
    Calls Try.prog 11 #[.pointer (some ⟨cb, 0, none⟩), .slice a n c] w fun e w' => e = .returned (.tuple #[]) ∧ BeM E w' cb wt N (outF F l) G ∧ Stp E E w w' := by
  have HL := hide hl
  have HM := hide h
  have HI := hide hi
  have HE := hide hE
  have HR := hide ra
  clear h hl hi ra hE
  go_enter Try.func11, Try.ntmps11
  go_wp2
  go_loopw [8] (fun i wr => ∃ k : Nat, k ≤ n ∧ i = .int .i64 (k : Nat) ∧ Hid (BeM E wr cb wt N (outF F (l.take k)) G ∧ Stp E E w wr)) (fun i _ => n - (intOf i).toNat)
  case atStart => exact ⟨0, Nat.zero_le _, rfl, hide ⟨HM.out, Stp.refl _ _⟩⟩
  case round =>
    obtain ⟨k, hk, rfl, HA⟩ := hrel
    by_cases hlt : k < n
    · have hkl : k < l.length := by have := HL.out; omega
      have hlt' : (k : Int) < (n : Int) := by omega
      have ra' : Reads wr a (iV l) := by
        rcases HR.out with e | ⟨b, off, rfl, hc⟩
        · exact .inl e
        · refine .inr ⟨b, off, rfl, fun j u hu => ?_⟩
          have h1 := hc j u hu
          rw [World.cell?_of_block (w := w) (a := ⟨b, off + j, none⟩) (HA.out.2.kp.block b (cell_some_lt h1) (HE.out b rfl))]
          exact h1
      obtain ⟨g, off, har, hcs⟩ := reads_at ra' hkl
      subst har
      have y0 := hcs.out k (.int .i64 l[k]) (by simp [iV, hkl])
      have hx : I64 l[k] := HI.out _ (List.getElem_mem _)
      have HT := hide (take_more (List.getElem?_eq_getElem hkl))
      generalize l[k] = x at y0 hx HT
      obtain ⟨⟨h1, h2, hw, v1, v2, hB, hF, hG, h6⟩, hS⟩ := HA.out
      obtain ⟨c1, f1⟩ := hB.at (o := 1) rfl
      rcases hF with ⟨rfl, hF⟩ | ⟨b, D, rfl, hown, hz, hF⟩
      · have hd : ∀ ty, (Builtin.delete_ #[40, 3] ty #[.map none, .int .i64 x]).run Try.prog wr = .ok (.tuple #[]) wr := fun ty => Maps.drop_nil law3 Try.underlying40 (key3 hx) ty
        have HN := hide (show BeM E wr cb wt N (outF F (l.take (k + 1))) G ∧ Stp E E w wr from by
          refine ⟨⟨h1, h2, hw, _, v2, hB, .inl ⟨rfl, fun z hz => ?_⟩, hG, h6⟩, hS⟩
          rw [HT.out]
          have := hF z hz
          simp only [outF, List.foldl_append, List.foldl_cons, List.foldl_nil, rem] at this ⊢
          split
          · rfl
          · exact this)
        clear hF hG h6 h1 hB HA hS hcs hkl HT
        go_wp2_with fail
        go_roundw
        case rel => exact ⟨k + 1, by omega, by go_num, HN⟩
        case measure => simp [intOf]; omega
      · have hk3 := key3 hx
        have hnm : b ≠ cb := box_not_map hown hB (o := 1) rfl
        rcases h6 with ⟨e, _⟩ | ⟨b1, b2, e1, rfl, g1, g2, hne⟩
        · cases e
        cases e1
        have HN := hide (fun (w' : World) (p : w'.ownsMap Try.prog 3 PE b (Maps.size D) (D.del (.int .i64 x))) (t : wr.mapTurned w' b) => show BeM E w' cb wt N (outF F (l.take (k + 1))) G ∧ Stp E E w w' from by
          have g := t.grown
          have hk' : Kp (fun k => k = b) wr w' := Kp.ofG g (fun k e => by cases e; rfl)
          refine ⟨⟨fun k hk1 => Nat.lt_of_lt_of_le (h1 k hk1) hk'.size, h2, hw, _, _, hB.keep hk'.size (hk'.block cb hB.1 (fun e => hnm e.symm)), ?_, hG.keep (fun b e => by cases e; exact hk'.block _ hG.lt hne.symm), .inr ⟨_, _, rfl, rfl, g1, g2, hne⟩⟩, hS.trans ⟨⟨hk'.os, hk'.tape, hk'.output, hk'.size, fun k hk1 hk2 => hk'.block k hk1 (fun e => hk2 (by rw [e]; exact g1))⟩, fun _ _ => Iff.rfl⟩⟩
          have e : outF F (l.take (k + 1)) = rem (outF F (l.take k)) x := by rw [HT.out]; simp [outF, List.foldl_append]
          rw [e]
          exact mapI_del (hown.tidy law3) hz hF p)
        have HO := hide hown
        clear hF hG h1 hB HA hS hcs hkl HT hown hz hne hnm
        go_wp2_with (at_delete; refine wpList_delete_own _ rfl _ _ 40 3 rfl 3 law3 Try.underlying40 _ b _ D rfl HO.out _ _ rfl hk3 ?_; intro w1 hown1 hturn1; have HN1 := hide (HN.out w1 hown1 hturn1); clear hown1 hturn1)
        go_roundw
        case rel => exact ⟨k + 1, by omega, by go_num, HN1⟩
        case measure => simp [intOf]; omega
    · obtain rfl : k = n := by omega
      have HN := hide (show BeM E wr cb wt N (outF F l) G ∧ Stp E E w wr from by
        have h := HA.out
        rw [List.take_of_length_le (by have := HL.out; omega)] at h
        exact h)
      go_wp2
      exact bodyPost_end (results_none rfl _ _ _) rfl ⟨rfl, HN.out.1, HN.out.2⟩

set_option maxRecDepth 100000 in
set_option maxHeartbeats 2000000 in
theorem new_any (w : World) (wt : Int) (hwt : I64 wt) (l : List Int) (a : Option Addr) (n c : Nat) (hl : l.length = n) (hn : n ≤ 20000) (hi : In64 l) (ra : Reads w a (iV l)) :
    Calls Try.prog 7 #[.int .i64 wt, .slice a n c] w fun e w' => ∃ E, e = .returned (.pointer (some ⟨w.heap.size, 0, none⟩)) ∧ BeM E w' w.heap.size wt n (newF l) (newG l) ∧ Below w.heap.size w w' ∧ ∀ j, E j → w.heap.size ≤ j := by
  have HL := hide hl
  have HI := hide hi
  have HR := hide ra
  have HW := hide hwt
  obtain ⟨W, hW⟩ : ∃ W, W = w.alloc (.cells #[.int .i64 wt, .map none, .map none] 42) := ⟨_, rfl⟩
  have hb := below_new w (.cells #[.int .i64 wt, .map none, .map none] 42)
  rw [← hW] at hb
  have H0 := hide (show BeM (fun j => j = w.heap.size) W w.heap.size wt 0 (newF (l.take 0)) (newG (l.take 0)) from by
    have hB : BoxL W w.heap.size [.int .i64 wt, .map none, .map none] := by rw [hW]; exact BoxL.new w [.int .i64 wt, .map none, .map none] 42
    refine ⟨fun k e => by rw [e]; exact hB.1, rfl, hwt, _, _, hB, .inl ⟨rfl, fun _ _ => rfl⟩, .inl ⟨rfl, fun _ _ => rfl⟩, .inl ⟨rfl, rfl⟩⟩)
  have HB := hide hb
  have HWW := hide hW
  clear hl hi ra hwt hb hW
  go_enter Try.func7, Try.ntmps7
  go_upto_region 2 with fail
  rw [← HWW.out]
  go_wp2
  go_loopw [7, 13] (fun _ i wr => ∃ k : Nat, k ≤ n ∧ i = .int .i64 (k : Nat) ∧ Hid (∃ E, BeM E wr w.heap.size wt k (newF (l.take k)) (newG (l.take k)) ∧ Below w.heap.size w wr ∧ ∀ j, E j → w.heap.size ≤ j)) (fun _ i _ => n - (intOf i).toNat)
  case atStart => exact ⟨0, Nat.zero_le _, rfl, hide ⟨_, H0.out, HB.out, fun j e => by rw [e]; exact Nat.le_refl _⟩⟩
  case round =>
    obtain ⟨k, hk, rfl, HA⟩ := hrel
    by_cases hlt : k < n
    · have hkl : k < l.length := by have := HL.out; omega
      have hlt' : (k : Int) < (n : Int) := by omega
      obtain ⟨E, hM, hbw, hE⟩ := HA.out
      obtain ⟨g, off, har, hcs⟩ := reads_at (HR.out.below hbw) hkl
      subst har
      have y0 := hcs.out k (.int .i64 l[k]) (by simp [iV, hkl])
      have hx : I64 l[k] := HI.out _ (List.getElem_mem _)
      have HT := hide (take_more (List.getElem?_eq_getElem hkl))
      generalize l[k] = x at y0 hx HT
      have C20 := hide (watch_any hM (by omega) x 1 0 hx (by unfold I64; omega) (by unfold I64; omega))
      have HN := hide (fun (w' : World) (E' : Cl) (p : BeM E' w' w.heap.size wt (k + 1) (upd (newF (l.take k)) x 0) (upd (newG (l.take k)) x 1)) (s : Stp E E' wr w') => show ∃ E, BeM E w' w.heap.size wt (k + 1) (newF (l.take (k + 1))) (newG (l.take (k + 1))) ∧ Below w.heap.size w w' ∧ ∀ j, E j → w.heap.size ≤ j from by
        refine ⟨E', ?_, s.kp.below hbw (Nat.le_refl _) (fun j hj e => by have := hE j e; omega), fun j hj => ?_⟩
        · rw [HT.out]
          simpa [newF, newG, List.foldl_append] using p
        · rcases Nat.lt_or_ge j wr.heap.size with h | h
          · exact hE j ((s.col j h).1 hj)
          · exact Nat.le_trans hbw.size h)
      clear hM hbw hE HA hcs hkl HT
      go_wp2_with (go_at_call 20; go_must ((with_reducible refine C20.out.mono ?_); rintro e w1 ⟨rfl, E1, hM1, hS1⟩; have HN1 := hide (HN.out w1 E1 hM1 hS1); clear hM1 hS1))
      go_roundw
      case rel => exact ⟨k + 1, by omega, by go_num, HN1⟩
      case measure => simp [intOf]; omega
    · obtain rfl : k = n := by omega
      have HN := hide (show ∃ E, BeM E wr w.heap.size wt k (newF l) (newG l) ∧ Below w.heap.size w wr ∧ ∀ j, E j → w.heap.size ≤ j from by
        have h := HA.out
        rw [List.take_of_length_le (by have := HL.out; omega)] at h
        exact h)
      go_wp2
      go_ret
      obtain ⟨E, q1, q2, q3⟩ := HN.out
      exact ⟨E, rfl, q1, q2, q3⟩
end Go.Proofs.Ytcfenakafcfjbaa
