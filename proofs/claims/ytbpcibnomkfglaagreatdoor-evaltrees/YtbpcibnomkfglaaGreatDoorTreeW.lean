/- The job of a tree. -/
import Derived.Test.YtbpcibnomkfglaaGreatDoorFuelW
namespace Go.Proofs.YtbpcibnomkfglaaGreatDoor
open Go.RowKit Go.ChangeShapes Go.WideShapes Go.ChangeAt Go.Deep

def treeG : Nat → List (Int × Int)
  | 0 => []
  | n + 1 => treeG n ++ [(5, 0), (1, 1), (8, 0), (16, 0)]
def treeH : Nat → List (Int × Int)
  | 0 => []
  | n + 1 => treeH n ++ [(4, 0), (17, 0), (7, 0)]
def treeC (n : Nat) : List (Int × Int) := [(5, 0), (15, ((7 * n + 4 : Nat) : Int))] ++ treeG n ++ [(1, 1)] ++ treeH n ++ [(18, 0)] ++ [(1, 1), (18, 0)]
theorem treeG_len : ∀ n, (treeG n).length = 4 * n
  | 0 => rfl
  | n + 1 => by rw [treeG, List.length_append, treeG_len n]; simp; omega
theorem treeH_len : ∀ n, (treeH n).length = 3 * n
  | 0 => rfl
  | n + 1 => by rw [treeH, List.length_append, treeH_len n]; simp; omega
theorem treeC_len (n : Nat) : (treeC n).length = 7 * n + 6 := by
  simp [treeC, treeG_len, treeH_len]
  omega
/-- What tree answers. -/
def TreePost (m : Nat) (d : Int) (w : World) (e : Ending) (w' : World) : Prop :=
  ∃ h b a cap, e = .returned (.agg #[.slice (some ⟨h, 0, none⟩) 1 1, .int .i64 0, .slice (some ⟨b, 0, none⟩) 1 1, .int .i64 1000, .int .i64 500]) ∧ w'.heap[h]? = some (.cells [.string fnm, .int .i64 1, .int .i64 1, .slice a (7 * m + 6) cap].toArray 43 (0, 0)) ∧ Reads w' a (insV (treeC m)) ∧ Reads w' (some ⟨b, 0, none⟩) (iV [d]) ∧ Below w.heap.size w w'
set_option linter.unusedSimpArgs false in
set_option maxRecDepth 100000 in
set_option maxHeartbeats 16000000 in
theorem tree_any (m : Nat) (hm : m ≤ 14) (d : Int) (w : World) : Calls Tryz.prog 12 #[.int .i64 (m : Int), .int .i64 d] w (TreePost m d w) := by
  have hA := alloc_below w (.cells #[.slice none 0 0, .int .i64 0, .slice none 0 0, .int .i64 0, .int .i64 0] 30)
  have hnew := heap_alloc_new w (.cells #[.slice none 0 0, .int .i64 0, .slice none 0 0, .int .i64 0, .int .i64 0] 30)
  obtain ⟨i0, hi, hz0, hz1, hz2⟩ := info_parts Tryz.info40
  go_enter Tryz.func12, Tryz.ntmps12
  go_upto_region 1 with fail
  generalize w.alloc (.cells #[.slice none 0 0, .int .i64 0, .slice none 0 0, .int .i64 0, .int .i64 0] 30) = w1 at *
  have hlt1 : w.heap.size < w1.heap.size := lt_row hnew
  generalize hrb : w.heap.size = rb at *
  have HRB := hide hrb
  clear hrb
  have hbA := alloc_below w1 (.cells #[.int .i64 5, .int .i64 0, .int .i64 15, .int .i64 0] 40)
  have hoA : (w1.alloc (.cells #[.int .i64 5, .int .i64 0, .int .i64 15, .int .i64 0] 40)).ownsRow w1.heap.size 40 2 (.slice (some ⟨w1.heap.size, 0, none⟩) 2 2) 2 (insV [(5, 0), (15, 0)]) := ⟨rfl, .inr ⟨w1.heap.size, 2, _, rfl, Nat.le_refl _, heap_alloc_new w1 _, Nat.le_refl _, by unfold maxLen; decide, rfl, rfl⟩⟩
  go_upto_block 0 with fail
  generalize w1.alloc (.cells #[.int .i64 5, .int .i64 0, .int .i64 15, .int .i64 0] 40) = w2 at *
  go_wp2_with fail
  go_loopw [5, 6] (fun l i wr => Hid (Below w1.heap.size w1 wr) ∧ ∃ k : Nat, k ≤ m ∧ i = .int .i64 (k : Int) ∧ wr.ownsRow w1.heap.size 40 2 l (2 + 4 * k) (insV ([(5, 0), (15, 0)] ++ treeG k))) (fun _ i _ => m - (intOf i).toNat)
  case atStart => exact ⟨hbA, 0, by omega, rfl, by simpa [treeG] using hoA⟩
  case round =>
    obtain ⟨hbw, k, hk, rfl, ho⟩ := hrel
    have hsz := hbw.out.size
    by_cases hlt : k < m
    · have hlt' : (k : Int) < (m : Int) := by omega
      go_wp2_with (at_builtin; go_must (refine wpList_append_own _ rfl (.tmp 16) (.tmp 21) 41 rfl w1.heap.size 40 i0 (.agg #[.int .i64 0, .int .i64 0]) 2 16 Tryz.underlying41 hi hz0 hz1 hz2 rfl (by decide) u5 (2 + 4 * k) _ rfl (ho.alloc _) ⟨wr.heap.size, 0, none⟩ 4 4 [.int .i64 5, .int .i64 0, .int .i64 1, .int .i64 1, .int .i64 8, .int .i64 0, .int .i64 16, .int .i64 0] rfl rfl (cells_new wr _ 40) (by simp [Value.oneCell']) (by unfold maxLen; omega) (by omega) (by simp; omega) ?_; intro v2 w2 ho2 hg2 hnn; clear hnn))
      have HB2 := hide ((hbw.out.alloc (by omega) _).grown hg2 (by simp; omega) (fun q hq => (ho.lt q hq).1))
      have HO2 := hide (show w2.ownsRow w1.heap.size 40 2 v2 (2 + 4 * (k + 1)) (insV ([(5, 0), (15, 0)] ++ treeG (k + 1))) by
        rw [treeG, ← List.append_assoc, insV_app, show 2 + 4 * (k + 1) = 2 + 4 * k + 4 by omega]
        exact ho2)
      go_roundw
      case rel => exact ⟨HB2, k + 1, by omega, by go_num, HO2.out⟩
      case measure => simp [intOf]; omega
    · have hlt' : ¬ (k : Int) < (m : Int) := by omega
      have HKM := hide (show k = m by omega)
      go_wp2_with (at_builtin; go_must (refine wpList_append_own _ rfl (.tmp 23) (.tmp 25) 41 rfl w1.heap.size 40 i0 (.agg #[.int .i64 0, .int .i64 0]) 2 16 Tryz.underlying41 hi hz0 hz1 hz2 rfl (by decide) u5 (2 + 4 * k) _ rfl (ho.alloc _) ⟨wr.heap.size, 0, none⟩ 1 1 [.int .i64 1, .int .i64 1] rfl rfl (cells_new wr _ 40) (by simp [Value.oneCell']) (by unfold maxLen; omega) (by omega) (by simp; omega) ?_; intro v2 w3 ho2 hg2 hnn; clear hnn))
      have HB3 := hide ((hbw.out.alloc (by omega) _).grown hg2 (by simp; omega) (fun q hq => (ho.lt q hq).1))
      have ho3 : w3.ownsRow w1.heap.size 40 2 v2 (3 + 4 * m) (insV ([(5, 0), (15, 0)] ++ treeG m ++ [(1, 1)])) := by
        rw [insV_app, ← HKM.out, show 3 + 4 * k = 2 + 4 * k + 1 by omega]
        exact ho2
      clear ho ho2 hg2 hbw hsz hlt hlt' hk HKM
      go_loopw [5, 7] (fun l i wr => Hid (Below w1.heap.size w1 wr) ∧ ∃ k : Nat, k ≤ m ∧ i = .int .i64 (k : Int) ∧ wr.ownsRow w1.heap.size 40 2 l (3 + 4 * m + 3 * k) (insV ([(5, 0), (15, 0)] ++ treeG m ++ [(1, 1)] ++ treeH k))) (fun _ i _ => m - (intOf i).toNat)
      case atStart => exact ⟨HB3, 0, by omega, rfl, by simpa [treeH] using ho3⟩
      case round =>
        obtain ⟨hbw, k, hk, rfl, ho⟩ := hrel
        have hsz := hbw.out.size
        by_cases hlt : k < m
        · have hlt' : (k : Int) < (m : Int) := by omega
          go_wp2_with (at_builtin; go_must (refine wpList_append_own _ rfl (.tmp 32) (.tmp 36) 41 rfl w1.heap.size 40 i0 (.agg #[.int .i64 0, .int .i64 0]) 2 16 Tryz.underlying41 hi hz0 hz1 hz2 rfl (by decide) u5 (3 + 4 * m + 3 * k) _ rfl (ho.alloc _) ⟨wr.heap.size, 0, none⟩ 3 3 [.int .i64 4, .int .i64 0, .int .i64 17, .int .i64 0, .int .i64 7, .int .i64 0] rfl rfl (cells_new wr _ 40) (by simp [Value.oneCell']) (by unfold maxLen; omega) (by omega) (by simp; omega) ?_; intro v2 w2 ho2 hg2 hnn; clear hnn))
          have HB2 := hide ((hbw.out.alloc (by omega) _).grown hg2 (by simp; omega) (fun q hq => (ho.lt q hq).1))
          have HO2 := hide (show w2.ownsRow w1.heap.size 40 2 v2 (3 + 4 * m + 3 * (k + 1)) (insV ([(5, 0), (15, 0)] ++ treeG m ++ [(1, 1)] ++ treeH (k + 1))) by
            rw [treeH, ← List.append_assoc, insV_app, show 3 + 4 * m + 3 * (k + 1) = 3 + 4 * m + 3 * k + 3 by omega]
            exact ho2)
          go_roundw
          case rel => exact ⟨HB2, k + 1, by omega, by go_num, HO2.out⟩
          case measure => simp [intOf]; omega
        · have hlt' : ¬ (k : Int) < (m : Int) := by omega
          have HKM := hide (show k = m by omega)
          go_wp2_with (at_builtin; go_must (refine wpList_append_own _ rfl (.tmp 38) (.tmp 40) 41 rfl w1.heap.size 40 i0 (.agg #[.int .i64 0, .int .i64 0]) 2 16 Tryz.underlying41 hi hz0 hz1 hz2 rfl (by decide) u5 (3 + 4 * m + 3 * k) _ rfl (ho.alloc _) ⟨wr.heap.size, 0, none⟩ 1 1 [.int .i64 18, .int .i64 0] rfl rfl (cells_new wr _ 40) (by simp [Value.oneCell']) (by unfold maxLen; omega) (by omega) (by simp; omega) ?_; intro v2 w4 ho2 hg2 hnn; clear hnn; refine Hid.out ?_))
          refine Lib.hid ?_
          have HB4 := hide ((hbw.out.alloc (by omega) _).grown hg2 (by simp; omega) (fun q hq => (ho.lt q hq).1))
          have ho4 : w4.ownsRow w1.heap.size 40 2 v2 (7 * m + 4) (insV ([(5, 0), (15, 0)] ++ treeG m ++ [(1, 1)] ++ treeH m ++ [(18, 0)])) := by
            rw [insV_app, ← HKM.out, show 7 * k + 4 = 3 + 4 * k + 3 * k + 1 by omega]
            have := ho2
            rw [← HKM.out] at this
            exact this
          clear ho ho2 hg2 hbw hsz hlt hlt' hk HKM HB3 ho3
          obtain ⟨g, cap, rfl⟩ : ∃ g cap, v2 = .slice (some ⟨g, 0, none⟩) (7 * m + 4) cap := by
            rcases ho4.2 with ⟨_, q⟩ | ⟨g, cap, _, q, _⟩
            · omega
            · exact ⟨g, cap, q⟩
          have c3 : w4.cell? ⟨g, 3, none⟩ = some (.int .i64 0) := by
            have := ho4.cells (g := g) rfl 3 (.int .i64 0) (by simp [insV])
            rw [add_none, Nat.zero_add] at this
            exact this
          have f3 := ho4.frozenAt 3
          have h1n : (1 : Int) < ((7 * m + 4 : Nat) : Int) := by omega
          have h1m : 1 < 7 * m + 4 := by omega
          have ho5 : (w4.setCell ⟨g, 3, none⟩ (.int .i64 ((7 * m + 4 : Nat) : Int))).ownsRow w1.heap.size 40 2 (.slice (some ⟨g, 0, none⟩) (7 * m + 4) cap) (7 * m + 4) (insV ([(5, 0), (15, ((7 * m + 4 : Nat) : Int))] ++ treeG m ++ [(1, 1)] ++ treeH m ++ [(18, 0)])) := by
            have h := (ho4.stored 3 (.int .i64 ((7 * m + 4 : Nat) : Int))).1
            have e : (insV ([(5, 0), (15, 0)] ++ treeG m ++ [(1, 1)] ++ treeH m ++ [(18, 0)])).set 3 (.int .i64 ((7 * m + 4 : Nat) : Int)) = insV ([(5, 0), (15, ((7 * m + 4 : Nat) : Int))] ++ treeG m ++ [(1, 1)] ++ treeH m ++ [(18, 0)]) := by simp [insV]
            rw [e] at h
            exact h
          have hb5 : Below w1.heap.size w1 (w4.setCell ⟨g, 3, none⟩ (.int .i64 ((7 * m + 4 : Nat) : Int))) := HB4.out.setCell (p := ⟨g, 3, none⟩) (ho4.lt g rfl).1 _
          have hL2 : 7 * m + 4 ≤ 200 := by omega
          clear ho4 HB4
          generalize hL : 7 * m + 4 = L at *
          have HLL := hide hL
          clear hL
          go_upto_region 13 with fail
          generalize w4.setCell ⟨g, 3, none⟩ (.int .i64 (L : Int)) = w5 at *
          clear c3 f3
          have hs5 := hb5.size
          go_wp2_with (at_builtin; go_must (refine wpList_append_own _ rfl (.tmp 47) (.tmp 50) 41 rfl w1.heap.size 40 i0 (.agg #[.int .i64 0, .int .i64 0]) 2 16 Tryz.underlying41 hi hz0 hz1 hz2 rfl (by decide) (.slice (some ⟨g, 0, none⟩) L cap) L _ rfl (ho5.alloc _) ⟨w5.heap.size, 0, none⟩ 2 2 [.int .i64 1, .int .i64 1, .int .i64 18, .int .i64 0] rfl rfl (cells_new w5 _ 40) (by simp [Value.oneCell']) (by unfold maxLen; omega) (by omega) (by simp; omega) ?_; intro v6 w6 ho6 hg6 hnn; clear hnn; refine Hid.out ?_))
          refine Lib.hid ?_
          have hb6 : Below w1.heap.size w1 w6 := (hb5.alloc (by omega) _).grown hg6 (by simp; omega) (fun q hq => (ho5.lt q hq).1)
          have ho7 : w6.ownsRow w1.heap.size 40 2 v6 (L + 2) (insV (treeC m)) := by
            unfold treeC
            rw [HLL.out, insV_app]
            exact ho6
          clear ho6 ho5 hg6 hb5
          obtain ⟨a, acap, rfl, hrc⟩ := own_code ho7
          have hnb : w6.heap[rb]? = some (.cells #[.slice none 0 0, .int .i64 0, .slice none 0 0, .int .i64 0, .int .i64 0] 30) := heap_row hnew hb6
          have hs6 := hb6.size
          obtain ⟨hbx, hsx, p1, p2⟩ : Below w6.heap.size w6 ((w6.alloc (.cells #[.string ⟨#[102]⟩, .int .i64 1, .int .i64 1, .slice a (L + 2) acap] 43)).alloc (.cells #[.int .i64 d] 3)) ∧ ((w6.alloc (.cells #[.string ⟨#[102]⟩, .int .i64 1, .int .i64 1, .slice a (L + 2) acap] 43)).alloc (.cells #[.int .i64 d] 3)).heap.size = w6.heap.size + 2 ∧ ((w6.alloc (.cells #[.string ⟨#[102]⟩, .int .i64 1, .int .i64 1, .slice a (L + 2) acap] 43)).alloc (.cells #[.int .i64 d] 3)).heap[w6.heap.size]? = some (.cells #[.string ⟨#[102]⟩, .int .i64 1, .int .i64 1, .slice a (L + 2) acap] 43 (0, 0)) ∧ ((w6.alloc (.cells #[.string ⟨#[102]⟩, .int .i64 1, .int .i64 1, .slice a (L + 2) acap] 43)).alloc (.cells #[.int .i64 d] 3)).heap[w6.heap.size + 1]? = some (.cells #[.int .i64 d] 3 (0, 0)) := by
            refine ⟨((Below.refl _ _).alloc (Nat.le_refl _) _).alloc (by simp) _, by simp, (heap_alloc_old _ _ (by simp)).trans (heap_alloc_new w6 _), ?_⟩
            have := heap_alloc_new (w6.alloc (.cells #[.string ⟨#[102]⟩, .int .i64 1, .int .i64 1, .slice a (L + 2) acap] 43)) (.cells #[.int .i64 d] 3)
            simpa using this
          have hnx := heap_row hnb hbx
          have hrx := hrc.below hbx
          have hbw7 : Below w1.heap.size w1 ((w6.alloc (.cells #[.string ⟨#[102]⟩, .int .i64 1, .int .i64 1, .slice a (L + 2) acap] 43)).alloc (.cells #[.int .i64 d] 3)) := hb6.trans (hbx.mono hs6)
          have n0 : ((w6.alloc (.cells #[.string ⟨#[102]⟩, .int .i64 1, .int .i64 1, .slice a (L + 2) acap] 43)).alloc (.cells #[.int .i64 d] 3)).cell? ⟨rb, 0, none⟩ = some (.slice none 0 0) := by simp only [World.cell?, hnx]; rfl
          have n1 : ((w6.alloc (.cells #[.string ⟨#[102]⟩, .int .i64 1, .int .i64 1, .slice a (L + 2) acap] 43)).alloc (.cells #[.int .i64 d] 3)).cell? ⟨rb, 1, none⟩ = some (.int .i64 0) := by simp only [World.cell?, hnx]; rfl
          have n2 : ((w6.alloc (.cells #[.string ⟨#[102]⟩, .int .i64 1, .int .i64 1, .slice a (L + 2) acap] 43)).alloc (.cells #[.int .i64 d] 3)).cell? ⟨rb, 2, none⟩ = some (.slice none 0 0) := by simp only [World.cell?, hnx]; rfl
          have n3 : ((w6.alloc (.cells #[.string ⟨#[102]⟩, .int .i64 1, .int .i64 1, .slice a (L + 2) acap] 43)).alloc (.cells #[.int .i64 d] 3)).cell? ⟨rb, 3, none⟩ = some (.int .i64 0) := by simp only [World.cell?, hnx]; rfl
          have n4 : ((w6.alloc (.cells #[.string ⟨#[102]⟩, .int .i64 1, .int .i64 1, .slice a (L + 2) acap] 43)).alloc (.cells #[.int .i64 d] 3)).cell? ⟨rb, 4, none⟩ = some (.int .i64 0) := by simp only [World.cell?, hnx]; rfl
          have e0 : ((w6.alloc (.cells #[.string ⟨#[102]⟩, .int .i64 1, .int .i64 1, .slice a (L + 2) acap] 43)).alloc (.cells #[.int .i64 d] 3)).frozen? ⟨rb, 0, none⟩ = false := by simp only [World.frozen?, hnx]; rfl
          have e1 : ((w6.alloc (.cells #[.string ⟨#[102]⟩, .int .i64 1, .int .i64 1, .slice a (L + 2) acap] 43)).alloc (.cells #[.int .i64 d] 3)).frozen? ⟨rb, 1, none⟩ = false := by simp only [World.frozen?, hnx]; rfl
          have e2 : ((w6.alloc (.cells #[.string ⟨#[102]⟩, .int .i64 1, .int .i64 1, .slice a (L + 2) acap] 43)).alloc (.cells #[.int .i64 d] 3)).frozen? ⟨rb, 2, none⟩ = false := by simp only [World.frozen?, hnx]; rfl
          have e3 : ((w6.alloc (.cells #[.string ⟨#[102]⟩, .int .i64 1, .int .i64 1, .slice a (L + 2) acap] 43)).alloc (.cells #[.int .i64 d] 3)).frozen? ⟨rb, 3, none⟩ = false := by simp only [World.frozen?, hnx]; rfl
          have e4 : ((w6.alloc (.cells #[.string ⟨#[102]⟩, .int .i64 1, .int .i64 1, .slice a (L + 2) acap] 43)).alloc (.cells #[.int .i64 d] 3)).frozen? ⟨rb, 4, none⟩ = false := by simp only [World.frozen?, hnx]; rfl
          clear hnb hrc hbx
          go_wp2_with fail
          show bodyPost Tryz.prog Tryz.f12 (TreePost m d w) Exit.ret _ (((w6.alloc (.cells #[.string ⟨#[102]⟩, .int .i64 1, .int .i64 1, .slice a (L + 2) acap] 43)).alloc (.cells #[.int .i64 d] 3)).setCells rb 0 [.slice (some ⟨w6.heap.size, 0, none⟩) 1 1, .int .i64 0, .slice (some ⟨w6.heap.size + 1, 0, none⟩) 1 1, .int .i64 1000, .int .i64 500])
          clear n0 n1 n2 n3 n4 e0 e1 e2 e3 e4
          generalize ((w6.alloc (.cells #[.string ⟨#[102]⟩, .int .i64 1, .int .i64 1, .slice a (L + 2) acap] 43)).alloc (.cells #[.int .i64 d] 3)) = w7 at *
          have hEl := Else.cells rb 0 w7 [.slice (some ⟨w6.heap.size, 0, none⟩) 1 1, .int .i64 0, .slice (some ⟨w6.heap.size + 1, 0, none⟩) 1 1, .int .i64 1000, .int .i64 500]
          have hrw := setCells_row (vs := [.slice (some ⟨w6.heap.size, 0, none⟩) 1 1, .int .i64 0, .slice (some ⟨w6.heap.size + 1, 0, none⟩) 1 1, .int .i64 1000, .int .i64 500]) hnx rfl
          have q1 := (hEl w6.heap.size (by omega)).trans p1
          have q2 := (hEl (w6.heap.size + 1) (by omega)).trans p2
          have hrz : Reads (w7.setCells rb 0 [.slice (some ⟨w6.heap.size, 0, none⟩) 1 1, .int .i64 0, .slice (some ⟨w6.heap.size + 1, 0, none⟩) 1 1, .int .i64 1000, .int .i64 500]) a (insV (treeC m)) := reads_setCells hrx (fun x hx => by
            have := (ho7.lt x.block (by rw [hx]; rfl)).1
            omega) 0
          have hbz : Below w.heap.size w (w7.setCells rb 0 [.slice (some ⟨w6.heap.size, 0, none⟩) 1 1, .int .i64 0, .slice (some ⟨w6.heap.size + 1, 0, none⟩) 1 1, .int .i64 1000, .int .i64 500]) := by
            rw [HRB.out]
            exact setCells_below (Nat.le_refl _) _ 0 (hA.trans (hbw7.mono (by omega)))
          have c0 := cell_row (i := 0) hrw rfl
          have c1 := cell_row (i := 1) hrw rfl
          have c2 := cell_row (i := 2) hrw rfl
          have c3 := cell_row (i := 3) hrw rfl
          have c4 := cell_row (i := 4) hrw rfl
          generalize w7.setCells rb 0 [.slice (some ⟨w6.heap.size, 0, none⟩) 1 1, .int .i64 0, .slice (some ⟨w6.heap.size + 1, 0, none⟩) 1 1, .int .i64 1000, .int .i64 500] = w8 at *
          exact bodyPost_ret (v := .agg #[.slice (some ⟨w6.heap.size, 0, none⟩) 1 1, .int .i64 0, .slice (some ⟨w6.heap.size + 1, 0, none⟩) 1 1, .int .i64 1000, .int .i64 500]) (by simp [results, Tryz.results12, go_sem, c0, c1, c2, c3, c4]) rfl ⟨w6.heap.size, w6.heap.size + 1, a, acap, rfl, by rw [show 7 * m + 6 = L + 2 by have := HLL.out; omega]; exact q1, hrz, .inr ⟨w6.heap.size + 1, 0, rfl, fun i u hu => by rw [Nat.zero_add]; exact cell_row (cs := iV [d]) q2 hu⟩, hbz⟩
end Go.Proofs.YtbpcibnomkfglaaGreatDoor
