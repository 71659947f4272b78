/- depths. -/
import Derived.Test.YtnkfdpnommjlcaaGreatDoorDepP
namespace Go.Proofs.YtnkfdpnommjlcaaGreatDoor
open Go.RowKit Go.ChangeShapes Go.WideShapes Go.ChangeAt Go.Deep

/-- How the giving of depths ends. -/
def DepPost (B b : Nat) (fn : Int) (w : World) (res : Except (Int × Int) (List Int)) (r : Ending) (w' : World) : Prop :=
  Below B w w' ∧ match res with
  | .error q => r = .panicked [{ v := wrongV fn q.1 q.2, recovered := false }]
  | .ok d => r = .returned (.tuple #[]) ∧ ∃ x p low g, x.b = b ∧ Dp B w' x p low d g

theorem drew_below (w : World) : Below w.heap.size w w.drew := (Below.refl _ _).drew
/-- The two rows are made, and laid into the walk. -/
theorem made_walk {B : Nat} {w : World} {b : Nat} {nm : ByteArray} {ar lo : Int} {ca : Option Addr} {n cc : Nat} {fn p : Int} {fa : Option Addr} {nf fc : Nat} {dv gv : Value} (hx : AtW w b ⟨nm, ar, lo, ca, n, cc, fn, p, fa, nf, fc, dv, gv, 0⟩) (hB : B ≤ b) (hBs : B ≤ w.heap.size) (W : World) (g1 g2 : Nat) (h1 : W.heap[g1]? = some (.cells (iV (List.replicate n 0)).toArray 3 (0, 0))) (h2 : W.heap[g2]? = some (.cells (tV (List.replicate n false)).toArray 4 (0, 0))) (hg1 : w.heap.size ≤ g1) (hg2 : w.heap.size ≤ g2)
    (hb : Below w.heap.size ((w.setCell ⟨b, 7, none⟩ (.slice (some ⟨g1, 0, none⟩) n n)).setCell ⟨b, 8, none⟩ (.slice (some ⟨g2, 0, none⟩) n n)) W) :
    Dp B W ⟨nm, ar, lo, ca, n, cc, fn, fa, nf, fc, b, g1, g2⟩ p 0 (List.replicate n 0) (List.replicate n false) ∧ Below B w W := by
  have hbl := lt_row hx
  have s1 := set_row (i := 7) hx (.slice (some ⟨g1, 0, none⟩) n n)
  have s2 := set_row (i := 8) s1 (.slice (some ⟨g2, 0, none⟩) n n)
  refine ⟨⟨⟨hB, by show B ≤ g1; omega, by show B ≤ g2; omega⟩, by simp, by simp, (hb.block b hbl).trans s2, h1, h2⟩, ?_⟩
  exact (((Below.refl _ _).setCell (p := ⟨b, 7, none⟩) hB _).setCell (p := ⟨b, 8, none⟩) hB _).trans (hb.mono hBs)
theorem two_new (w : World) (o1 o2 : Obj) : ((w.alloc o1).alloc o2).drew.heap[w.heap.size]? = some o1 ∧ ((w.alloc o1).alloc o2).drew.heap[w.heap.size + 1]? = some o2 ∧ Below w.heap.size w ((w.alloc o1).alloc o2).drew := by
  refine ⟨?_, ?_, (((Below.refl _ _).alloc (Nat.le_refl _) _).alloc (by simp) _).drew⟩
  · show ((w.alloc o1).alloc o2).heap[w.heap.size]? = _
    rw [Go.heap_alloc_old _ _ (show w.heap.size < _ by simp)]; exact heap_alloc_new w _
  · show ((w.alloc o1).alloc o2).heap[w.heap.size + 1]? = _
    have := heap_alloc_new (w.alloc o1) o2
    rwa [show (w.alloc o1).heap.size = w.heap.size + 1 by simp] at this

theorem rep_set (n k : Nat) (h : k < n) : (List.replicate k (-1 : Int) ++ List.replicate (n - k) 0).set k (-1) = List.replicate (k + 1) (-1) ++ List.replicate (n - (k + 1)) 0 := by
  rw [List.set_append_right _ _ (by simp)]
  simp only [List.length_replicate, Nat.sub_self]
  obtain ⟨m, hm⟩ : ∃ m, n - k = m + 1 := ⟨n - k - 1, by omega⟩
  rw [hm, show n - (k + 1) = m by omega, List.replicate_succ, List.set_cons_zero, List.replicate_succ', List.append_assoc]
  rfl

set_option maxRecDepth 100000 in
set_option maxHeartbeats 4000000 in
theorem depths_any (B b : Nat) (x : Wk) (code : List (Int × Int)) (ns : List Int) (w : World) (hx : AtW w b x) (hlow : x.low = 0) (hB : B ≤ b) (hBs : B ≤ w.heap.size) (hn1 : 1 ≤ x.cn) (hn2 : x.cn ≤ 1000000000) (hcl : code.length = x.cn) (hns : ns.length = x.nf)
    (hS : ∀ W, Below B w W → Tab W ∧ AReads W x.fa ns ∧ Reads W x.ca (insV code)) :
    Calls Tryz.prog 52 #[.pointer (some ⟨b, 0, none⟩)] w (DepPost B b x.fn w (depthsL ns code)) := by
  obtain ⟨nm, ar, lo, ca, n, cc, fn, p, fa, nf, fc, dv, gv, low⟩ := x
  simp only at hlow
  subst hlow
  simp only [] at *
  have m1 := mk_ints n hn2
  have m2 := mk_bools n hn2
  have x3 : w.cell? ⟨b, 3, none⟩ = some (.slice ca n cc) := cell_row (i := 3) hx rfl
  have x7 : w.cell? ⟨b, 7, none⟩ = some dv := cell_row (i := 7) hx rfl
  have x8 : w.cell? ⟨b, 8, none⟩ = some gv := cell_row (i := 8) hx rfl
  have fr := fun i => frozen_row (i := i) hx
  have hbl := lt_row hx
  have HX := hide hx
  clear hx
  go_enter Tryz.func52, Tryz.ntmps52
  go_upto_region 0 with fail
  go_cut [] from 3 (fun wx => ∃ g1 g2, Hid (Dp B wx ⟨nm, ar, lo, ca, n, cc, fn, fa, nf, fc, b, g1, g2⟩ p 0 (List.replicate n 0) (List.replicate n false)) ∧ Hid (Below B w wx))
  case first =>
    go_region
    · obtain ⟨k1, k2, k3⟩ := two_new ((w.setCell ⟨b, 7, none⟩ (.slice (some ⟨w.heap.size, 0, none⟩) n n)).setCell ⟨b, 8, none⟩ (.slice (some ⟨w.heap.size + 1, 0, none⟩) n n)) (.cells (iV (List.replicate n 0)).toArray 3) (.cells (tV (List.replicate n false)).toArray 4)
      have hz : ((w.setCell ⟨b, 7, none⟩ (.slice (some ⟨w.heap.size, 0, none⟩) n n)).setCell ⟨b, 8, none⟩ (.slice (some ⟨w.heap.size + 1, 0, none⟩) n n)).heap.size = w.heap.size := by simp [World.setCell]
      rw [hz] at k1 k2 k3
      have HM := hide (made_walk HX.out hB hBs _ w.heap.size (w.heap.size + 1) k1 k2 (Nat.le_refl _) (Nat.le_succ _) k3)
      clear k1 k2 k3 hz
      go_wp2_with fail
      go_meet
      case rel => exact ⟨_, _, HM.out.1, HM.out.2⟩
    · obtain ⟨k1, k2, k3⟩ := two_new ((w.setCell ⟨b, 7, none⟩ (.slice (some ⟨w.heap.size + 1, 0, none⟩) n n)).setCell ⟨b, 8, none⟩ (.slice (some ⟨w.heap.size, 0, none⟩) n n)) (.cells (tV (List.replicate n false)).toArray 4) (.cells (iV (List.replicate n 0)).toArray 3)
      have hz : ((w.setCell ⟨b, 7, none⟩ (.slice (some ⟨w.heap.size + 1, 0, none⟩) n n)).setCell ⟨b, 8, none⟩ (.slice (some ⟨w.heap.size, 0, none⟩) n n)).heap.size = w.heap.size := by simp [World.setCell]
      rw [hz] at k1 k2 k3
      have HM := hide (made_walk HX.out hB hBs _ (w.heap.size + 1) w.heap.size k2 k1 (Nat.le_succ _) (Nat.le_refl _) k3)
      clear k1 k2 k3 hz
      go_wp2_with fail
      go_meet
      case rel => exact ⟨_, _, HM.out.1, HM.out.2⟩
  case rest =>
    obtain ⟨g1, g2, hD, hbw⟩ := hcut
    have HSS := hide hS
    have HDS : Hid (∀ (w : World) (p l : Int) (d : List Int) (g : List Bool) (k : Nat) (v : Int), Dp B w ⟨nm, ar, lo, ca, n, cc, fn, fa, nf, fc, b, g1, g2⟩ p l d g → Dp B (w.setCell ⟨g1, k, none⟩ (.int .i64 v)) ⟨nm, ar, lo, ca, n, cc, fn, fa, nf, fc, b, g1, g2⟩ p l (d.set k v) g ∧ Below B w (w.setCell ⟨g1, k, none⟩ (.int .i64 v))) := fun w p l d g k v h => ⟨h.setD k v, (Below.refl _ _).setCell (p := ⟨g1, k, none⟩) h.le.2.1 _⟩
    clear hS x3 x7 x8 fr hbl HX m1 m2
    obtain ⟨_, _, _, _, c7, _, _, _⟩ := hD.out.cells
    go_wp2
    go_loopw [28] (fun i wr => Hid (Below B w wr) ∧ ∃ k : Nat, k ≤ n ∧ i = .int .i64 (k : Nat) ∧ Hid (Dp B wr ⟨nm, ar, lo, ca, n, cc, fn, fa, nf, fc, b, g1, g2⟩ p 0 (List.replicate k (-1) ++ List.replicate (n - k) 0) (List.replicate n false))) (fun i _ => n - (intOf i).toNat)
    case atStart => exact ⟨hbw, 0, Nat.zero_le _, rfl, Lib.hid (by simpa using hD.out)⟩
    case round =>
      obtain ⟨hbr, k, hk, rfl, hDr⟩ := hrel
      clear c7
      obtain ⟨_, _, _, _, c7, _, _, _⟩ := hDr.out.cells
      by_cases hlt : k < n
      · have hlt' : (k : Int) < (n : Int) := by omega
        have ak := hDr.out.at (k := k) hlt
        have fk := frozen_row (i := k) hDr.out.dep
        have HD2 := hide (HDS.out _ _ _ _ _ k (-1) hDr.out)
        rw [rep_set n k hlt] at HD2
        generalize (List.replicate k (-1 : Int) ++ List.replicate (n - k) 0).getD k 0 = ov at ak
        go_wp2
        go_roundw
        case rel => exact ⟨hbr.out.trans HD2.out.2, k + 1, by omega, by go_num, HD2.out.1⟩
        case measure => simp [intOf]; omega
      · have hkn : k = n := by omega
        have HD2 := hide (show Dp B wr ⟨nm, ar, lo, ca, n, cc, fn, fa, nf, fc, b, g1, g2⟩ p ((0 : Nat) : Int) (List.replicate n (-1)) (List.replicate n false) by have := hDr.out; rw [hkn] at this; simpa using this)
        clear hkn hDr HDS
        have C38 := give_any B ⟨nm, ar, lo, ca, n, cc, fn, fa, nf, fc, b, g1, g2⟩ p 0 0 0 _ _ wr HD2.out hn1
        go_wp2_with (go_at_call 73; go_must (refine C38.mono ?_; rintro e w2 ⟨rfl, hD3, hb3, _⟩; refine Hid.out ?_))
        refine Lib.hid ?_
        have HB3 := hide (hbr.out.trans hb3)
        have HD3 := hide hD3
        clear C38 HD2 hD3 hb3 hbr c7 hbw hD
        have HWL := hide (show depthsL ns code = walkL ns code (n + 1) ((List.replicate n (-1 : Int)).set 0 0) (List.replicate n false) 0 by unfold depthsL; rw [hcl])
        go_wp2_with fail
        go_loopg [] n (fun gg wr => Hid (Below B w wr) ∧ Hid (∃ (p : Int) (l m : Nat) (d : List Int) (g : List Bool), Dp B wr ⟨nm, ar, lo, ca, n, cc, fn, fa, nf, fc, b, g1, g2⟩ p (l : Int) d g ∧ Deps d ∧ l ≤ n ∧ g.count false ≤ gg ∧ g.count false < m ∧ depthsL ns code = walkL ns code m d g l))
        case atStart => exact ⟨HB3, p, 0, n + 1, _, _, HD3.out, Deps.set (fun v hv => by have := List.eq_of_mem_replicate hv; omega) 0 (by omega), Nat.zero_le _, by simp, by simp, HWL.out⟩
        case round =>
          obtain ⟨hbr, hx⟩ := hrel
          obtain ⟨p', l, m, d, g, hDr, hdp, hl, hc1, hc2, hwl⟩ := hx.out
          have hdl := hDr.dl
          have hgl := hDr.gl
          obtain ⟨m', rfl⟩ : ∃ m', m = m' + 1 := ⟨m - 1, by omega⟩
          have C39 := least_any B ⟨nm, ar, lo, ca, n, cc, fn, fa, nf, fc, b, g1, g2⟩ p' l d g wr hDr hl hn2
          have HF := hide (leastFrom_spec d g d.length l (by rw [hdl]; exact hl) (by omega))
          have HBR := hide hbr.out
          have HDL := hide hdl
          have HGL := hide hgl
          have HWL := hide hwl
          have HDP := hide hdp
          have HC := hide (And.intro hc1 hc2)
          clear hx HB3 HD3 hDr hdl hgl hwl hdp hc1 hc2 hbr
          go_wp2_with (go_at_call 74; go_must (refine C39.mono ?_; rintro e w2 ⟨L, hL, rfl, hD2, hb2⟩; refine Hid.out ?_))
          refine Lib.hid ?_
          have HL := hide hL
          have HD2 := hide hD2
          have HB2 := hide (HBR.out.trans hb2)
          clear C39 hL hD2 hb2 HBR
          have HF2 := hide (HL.out ▸ HF.out)
          cases hh : hasB (n : Int) (L : Int) with
          | false =>
            have HE := hide (show depthsL ns code = .ok d by
              rw [HWL.out, walkL, if_neg]
              rw [HL.out, HDL.out]
              simp [hasB, inB] at hh
              show ¬ L < n
              omega)
            go_wp2
            go_end0
            exact ⟨HB2.out, by rw [HE.out]; exact ⟨rfl, _, _, _, _, rfl, HD2.out⟩⟩
          | true =>
            have hLn : L < n := by
              obtain ⟨j, h1, h2⟩ := hasB_nat hh
              omega
            have hnp := HF2.out.2.2 (by rw [HDL.out]; exact hLn)
            have hpn := passed_no HDP.out (by rw [HDL.out]; exact hLn) hnp
            have HE := hide (show depthsL ns code = (match overL ns code d L L with | .error e => .error ((L : Int), e) | .ok (d', l') => walkL ns code m' d' (g.set L true) l') by
              rw [HWL.out, walkL, if_pos]
              · rw [HL.out]
                rfl
              · rw [HL.out, HDL.out]; exact hLn)
            have HCS := hide (count_set g L (by rw [HGL.out]; exact hLn) hpn.2)
            have C40 := goOver_any B ⟨nm, ar, lo, ca, n, cc, fn, fa, nf, fc, b, g1, g2⟩ L L d g ns code w2 HD2.out (Nat.le_trans hBs HB2.out.size) hLn hn2 hcl hns hpn.1 (fun W hW => HSS.out W (HB2.out.trans hW))
            clear hnp hpn HF HF2
            unfold OverPost at C40
            cases ho : overL ns code d L L with
            | error e =>
              rw [ho] at C40 HE
              simp only at C40
              go_wp2_with (go_at_call 75; go_must (refine C40.mono ?_; rintro e w3 ⟨hb3, rfl⟩; refine Hid.out ?_))
              refine Lib.hid ?_
              have HB3 := hide (HB2.out.trans hb3)
              clear C40
              go_wp2
              exact ⟨rfl, HB3.out, by rw [HE.out]⟩
            | ok q =>
              obtain ⟨d', l'⟩ := q
              have hob := overL_bound ho HDP.out
              rw [ho] at C40 HE
              simp only at C40
              go_wp2_with (go_at_call 75; go_must (refine C40.mono ?_; rintro e w3 ⟨hb3, rfl, hD3⟩; refine Hid.out ?_))
              refine Lib.hid ?_
              have HB3 := hide (HB2.out.trans hb3)
              have HD3 := hide hD3
              clear C40 hD3 hb3
              go_wp2_with fail
              go_roundg ((g.set L true).count false)
              case measure => have := HCS.out; have := HC.out; omega
              case rel => exact ⟨HB3, _, l', m', d', _, HD3.out, hob.1, by omega, Nat.le_refl _, by have := HCS.out; have := HC.out; omega, HE.out⟩
end Go.Proofs.YtnkfdpnommjlcaaGreatDoor
