/- slices.DeleteFunc over the parcels. -/
import Derived.Test.YtmjglgdihlomlaaGoD
namespace Go.Proofs.Ytmjglgdihlomlaa
open Go.RowKit Go.ChangeShapes Go.WideShapes Go.ChangeAt Go.Deep Go.Maps

theorem setCells_rest (g : Nat) : ∀ (vs : List Value) (o : Nat) (w : World), (w.setCells g o vs).os = w.os ∧ (w.setCells g o vs).tape = w.tape ∧ (w.setCells g o vs).output = w.output
  | [], _, _ => ⟨rfl, rfl, rfl⟩
  | v :: r, o, w => setCells_rest g r (o + 1) (w.setCell ⟨g, o, none⟩ v)
def stM (ns : List Int) (x : Pm) : Bool := !goB ns x.p
/-- The row behind k looks. -/
structure DelS (D : Nat → Prop) (w wr : World) (g off n c : Nat) (ns : List Int) (l : List Pm) (q k : Nat) (cur : List Pm) : Prop where
  kp : Kp (fun b => b = g) w wr
  row : RowO D wr (some ⟨g, off, none⟩) n c cur
  done : cur.take q = (l.take k).filter (stM ns)
  rest : cur.drop k = l.drop k
def DelPost (D : Nat → Prop) (w : World) (a : Option Addr) (c : Nat) (ns : List Int) (l : List Pm) (e : Ending) (w' : World) : Prop :=
  e = .returned (.slice a (l.filter (stM ns)).length c) ∧ RowO D w' a (l.filter (stM ns)).length c (l.filter (stM ns)) ∧ Kp (fun b => ∃ ad, a = some ad ∧ ad.block = b) w w'
theorem DelS.at {D : Nat → Prop} {w wr : World} {g off n c : Nat} {ns : List Int} {l cur : List Pm} {q k : Nat} (h : DelS D w wr g off n c ns l q k cur) (hl : l.length = n) (hk : k < n) : ∃ hc : k < cur.length, ∃ hl : k < l.length, cur[k] = l[k] := by
  have h1 := h.row.1.1
  refine ⟨by omega, by omega, ?_⟩
  have h2 := congrArg (fun z => z[0]?) h.rest
  simp only [List.getElem?_drop, Nat.add_zero] at h2
  rw [List.getElem?_eq_getElem (by omega), List.getElem?_eq_getElem (by omega)] at h2
  simpa using h2
theorem DelS.skip {D : Nat → Prop} {w wr w' : World} {g off n c : Nat} {ns : List Int} {l cur : List Pm} {q k : Nat} (h : DelS D w wr g off n c ns l q k cur) (hD : ∀ b, D b → b < wr.heap.size) (hb : Below wr.heap.size wr w') (hk : k < l.length) (hs : stM ns l[k] = false) : DelS D w w' g off n c ns l q (k + 1) cur where
  kp := h.kp.below hb
  row := h.row.keep hD fun b _ hb' => hb.block b hb'
  done := by rw [h.done, stay_take hk, hs]; simp
  rest := by rw [← List.drop_drop, ← List.drop_drop, h.rest]
theorem DelS.step {D : Nat → Prop} {w wr w' : World} {g off n c : Nat} {ns : List Int} {l cur : List Pm} {q k : Nat} (h : DelS D w wr g off n c ns l q k cur) (hD : ∀ b, D b → b < wr.heap.size) (hb : Below wr.heap.size wr w') (hln : l.length = n) (hk : k < l.length) (hqk : q < k) (hs : stM ns l[k] = true) :
    DelS D w (put3 w' g (off + q * 3) (.int .i64 l[k].p.1) (.int .i64 l[k].p.2.1) (.slice l[k].a l[k].n l[k].c)) g off n c ns l (q + 1) (k + 1) (cur.set q l[k]) := by
  have hrow : RowO D w' (some ⟨g, off, none⟩) n c cur := h.row.keep hD fun b _ hb' => hb.block b hb'
  obtain ⟨hc, hl, e⟩ := h.at hln (by omega)
  have hok := hrow.1.2.2.2.2.2 cur[k] (List.getElem_mem _)
  obtain ⟨_, hap⟩ := hrow.room
  have hap' := hap cur[k] (List.getElem_mem _)
  rw [e] at hok hap'
  have hcl := h.row.1.1
  refine ⟨?_, row_set hrow (by omega) l[k] hok hap', ?_, ?_⟩
  · have hk1 := h.kp.below hb
    exact ((hk1.put (.inl rfl) _).put (.inl rfl) _).put (.inl rfl) _
  · rw [stay_take hk, hs, ← h.done, List.take_succ_eq_append_getElem (by rw [List.length_set]; omega)]
    simp [List.take_set_of_le]
  · rw [List.drop_set_of_lt (by omega), ← List.drop_drop, ← List.drop_drop, h.rest]
theorem DelS.start {D : Nat → Prop} {w wr : World} {g off n c : Nat} {ns : List Int} {l : List Pm} {q : Nat} (h : RowO D w (some ⟨g, off, none⟩) n c l) (hD : ∀ b, D b → b < w.heap.size) (hb : Below w.heap.size w wr) (hq : q < l.length) (ht : goB ns l[q].p = true) (hn : ∀ j (hj : j < l.length), j < q → goB ns l[j].p = false) : DelS D w wr g off n c ns l q (q + 1) l where
  kp := .of_below hb
  row := h.keep hD fun b _ hb' => hb.block b hb'
  done := by
    rw [stay_take hq, show stM ns l[q] = false by simp [stM, ht]]
    simp only [Bool.false_eq_true, if_false, List.append_nil]
    rw [List.filter_eq_self.2]
    intro x hx
    obtain ⟨i, hi, rfl⟩ := List.getElem_of_mem hx
    rw [List.length_take] at hi
    rw [List.getElem_take]
    simp [stM, hn i (by omega) (by omega)]
  rest := rfl
theorem DelS.finish {D : Nat → Prop} {w wr : World} {g off n c : Nat} {ns : List Int} {l cur : List Pm} {q : Nat} (h : DelS D w wr g off n c ns l q n cur) (hl : l.length = n) (hq : q ≤ n) :
    (l.filter (stM ns)).length = q ∧ RowO D (wr.setCells g (off + q * 3) (zerosP (n - q))) (some ⟨g, off, none⟩) q c (l.filter (stM ns)) ∧ Kp (fun b => b = g) w (wr.setCells g (off + q * 3) (zerosP (n - q))) := by
  have hd := h.done
  rw [List.take_of_length_le (by omega : l.length ≤ n)] at hd
  have hc := h.row.1.1
  have hlen : (l.filter (stM ns)).length = q := by rw [← hd, List.length_take]; omega
  refine ⟨hlen, by rw [← hd]; exact row_cut h.row hq, ?_⟩
  exact ⟨(setCells_rest ..).1.trans h.kp.os, (setCells_rest ..).2.1.trans h.kp.tape, (setCells_rest ..).2.2.trans h.kp.output, by rw [setCells_size]; exact h.kp.size, fun b hb hd => (setCells_other g b hd _ _ _).trans (h.kp.block b hb hd)⟩

set_option linter.unusedSimpArgs false in
set_option maxRecDepth 100000 in
set_option maxHeartbeats 4000000 in
theorem delf_any (D : Nat → Prop) (w : World) (gb b : Nat) (ns : List Int) (a : Option Addr) (n c : Nat) (l : List Pm) (h : RowO D w a n c l) (hD : ∀ k, D k → k < w.heap.size) (hn : n ≤ 20000) (hG : GoneM w gb b ns) (hg1 : ¬ D gb) (hg2 : ¬ D b) (hwf : ∀ x ∈ l, wfP x.p) :
    Calls Try.prog 27 #[.slice a n c, .func (.func 28) #[] #[.pointer (some ⟨gb, 0, none⟩)]] w (DelPost D w a c ns l) := by
  have HR := hide h
  have HL := hide h.1.1
  have HG := hide hG
  have HW := hide hwf
  have HD := hide hD
  have HG1 := hide hg1
  have HG2 := hide hg2
  have C31 := hide (idx_any D w gb b ns a n c l h.1.weak hn hG hwf)
  clear h hG hwf hD hg1 hg2
  unfold DelPost
  go_enter Try.func27, Try.ntmps27
  go_upto_region 2 with (go_at_call 31; go_must ((with_reducible refine C31.out.mono ?_); rintro e w1 ⟨r, rfl, hI, hb1⟩; have HI := hide hI; have HB1 := hide hb1; clear hI hb1))
  rcases HI.out with ⟨rfl, hall⟩ | ⟨q, hq, rfl, ht, hbe⟩
  · have HF := hide (show l.filter (stM ns) = l from List.filter_eq_self.2 fun x hx => by simp [stM, hall x hx])
    have HP := hide (show RowO D w1 a n c l from HR.out.keep HD.out fun b _ hb => HB1.out.block b hb)
    clear hall HI
    go_wp2
    go_ret
    rw [HF.out, HL.out]
    exact ⟨rfl, HP.out, .of_below HB1.out⟩
  · obtain ⟨g, off, rfl⟩ := HR.out.isAt (by have := HL.out; have := HR.out.1.2.1.1; omega)
    have HS := hide (DelS.start HR.out HD.out HB1.out hq ht hbe)
    have hqn : q < n := by have := HL.out; omega
    have hnc := HR.out.1.2.1.1
    clear hq ht hbe HI
    have HDg := hide (HR.out.1.2.2.2.2.1 _ rfl)
    have HNG := hide (show gb ≠ g ∧ b ≠ g from ⟨fun e => HG1.out (e ▸ HDg.out), fun e => HG2.out (e ▸ HDg.out)⟩)
    go_wp2
    go_loopw [5, 6] (fun i j wr => ∃ (q k : Nat) (cur : List Pm), q < k ∧ k ≤ n ∧ i = .int .i64 (q : Nat) ∧ j = .int .i64 (k : Nat) ∧ Hid (DelS D w wr g off n c ns l q k cur)) (fun _ j _ => n - (intOf j).toNat)
    case atStart => exact ⟨q, q + 1, l, by omega, by omega, rfl, by go_num, HS⟩
    case round =>
      clear HS hqn
      obtain ⟨q, k, cur, hqk, hk, rfl, rfl, HS⟩ := hrel
      have HDr := hide (show ∀ b, D b → b < wr.heap.size from fun b hb => Nat.lt_of_lt_of_le (HD.out b hb) HS.out.kp.size)
      by_cases hlt : k < n
      · obtain ⟨hkc, hkl, hke⟩ := HS.out.at HL.out hlt
        have hlt' : (k : Int) < (n : Int) := by omega
        have hqi : (q : Int) < (n : Int) := by omega
        have hqn : q < n := by omega
        obtain ⟨g', off', har, y0, y1, y2⟩ := HS.out.row.1.at hkc
        simp only [Option.some.injEq, Addr.mk.injEq] at har
        obtain ⟨rfl, rfl, _⟩ := har
        rw [hke] at y0 y1 y2
        have hwk := HW.out l[k] (List.getElem_mem _)
        have HGr := hide (show GoneM wr gb b ns from HG.out.keep (HS.out.kp.block _ HG.out.lt.1 HNG.out.1) (HS.out.kp.block _ HG.out.lt.2 HNG.out.2))
        have C28 := hide (fun X (hX : Below wr.heap.size wr X) => gone_test X gb b ns l[k].p.1 l[k].p.2.1 l[k].a l[k].n l[k].c (HGr.out.below hX) hwk.1 hwk.2)
        have HSK := hide (fun (hs : stM ns l[k] = false) w' (hb : Below wr.heap.size wr w') => HS.out.skip HDr.out hb hkl hs)
        have HST := hide (fun (hs : stM ns l[k] = true) w' (hb : Below wr.heap.size wr w') => HS.out.step HDr.out hb HL.out hkl hqk hs)
        have HRM := hide (fun w' (hb : Below wr.heap.size wr w') => (HS.out.row.keep HDr.out (fun b _ hb' => hb.block b hb')).room.1)
        have HGB := hide (show (decide (l[k].p.1 ∈ ns) || decide (l[k].p.2.1 ∈ ns)) = goB ns l[k].p from rfl)
        have HSG := hide (show stM ns l[k] = !goB ns l[k].p from rfl)
        rw [HGB.out] at C28
        rw [HSG.out] at HSK HST
        generalize goB ns l[k].p = R at C28 HSK HST HGB HSG
        generalize hx : l[k] = x at y0 y1 y2 C28 HST
        obtain ⟨⟨f, t, bs⟩, xa, xn, xc⟩ := x
        simp only at y0 y1 y2 C28 HST
        clear HGB HSG hwk hkl hkc hke hx
        go_upto_region 8 with fail
        have hbX := below_new wr (.cells #[.int .i64 f, .int .i64 t, .slice xa xn xc] 37)
        have hPX := BoxL.new wr [.int .i64 f, .int .i64 t, .slice xa xn xc] 37
        generalize wr.alloc (.cells #[.int .i64 f, .int .i64 t, .slice xa xn xc] 37) = X at hbX hPX ⊢
        have C28X := hide (C28.out X hbX)
        have HBX := hide hbX
        have HPX := hide hPX
        obtain ⟨p0, p1, p2⟩ := hPX.c3
        clear hbX hPX y0 y1 y2
        cases R
        · go_upto_region 9 with (go_at_call 28; go_must ((with_reducible refine C28X.out.mono ?_); rintro e w2 ⟨rfl, hb2⟩))
          have HB2 := hide (show Below wr.heap.size wr w2 from HBX.out.trans (hb2.mono HBX.out.size))
          obtain ⟨s0, s1, s2⟩ := (HPX.out.below hb2).c3
          have hroom := HRM.out w2 HB2.out
          obtain ⟨u0, u0'⟩ := hroom (q * 3) (by omega)
          obtain ⟨u1, u1'⟩ := hroom (q * 3 + 1) (by omega)
          obtain ⟨u2, u2'⟩ := hroom (q * 3 + 2) (by omega)
          rw [← Nat.add_assoc] at u1 u1' u2 u2'
          obtain ⟨o0, u0⟩ := Option.isSome_iff_exists.1 u0
          obtain ⟨o1, u1⟩ := Option.isSome_iff_exists.1 u1
          obtain ⟨o2, u2⟩ := Option.isSome_iff_exists.1 u2
          have HN := hide (HST.out rfl w2 HB2.out)
          clear hroom hb2 p0 p1 p2
          go_upto_region 10 with fail
          obtain ⟨X4, hX4⟩ : ∃ X4, X4 = put3 w2 g (off + q * 3) (.int .i64 f) (.int .i64 t) (.slice xa xn xc) := ⟨_, rfl⟩
          rw [← hX4] at HN
          unfold put3 at hX4
          rw [← hX4]
          clear hX4
          go_wp2
          go_roundw
          case rel => exact ⟨q + 1, k + 1, _, by omega, by omega, by go_num, by go_num, HN⟩
          case measure => simp [intOf]; omega
        · go_wp2_with (go_at_call 28; go_must ((with_reducible refine C28X.out.mono ?_); rintro e w2 ⟨rfl, hb2⟩; have HB2 := hide (show Below wr.heap.size wr w2 from HBX.out.trans (hb2.mono HBX.out.size)); clear hb2))
          go_roundw
          case rel => exact ⟨q, k + 1, cur, by omega, by omega, rfl, by go_num, hide (HSK.out rfl _ HB2.out)⟩
          case measure => simp [intOf]; omega
      · obtain rfl : k = n := by omega
        have hroom := HS.out.row.room.1
        have hat : atp g off c q = ⟨g, off + q * 3, none⟩ := by unfold atp; rw [if_neg (by omega)]
        have kf : ∀ W, (Instr.slice 28 (.slice (some ⟨g, off, none⟩) k c) (some (.int .i64 (q : Int))) none none).run Try.prog W = .ok (.slice (some ⟨g, off + q * 3, none⟩) (k - q) (c - q)) W := fun W => by rw [← hat]; exact slice_fromP W g off k c q (by omega)
        have kt := fun W => slice_to W (some ⟨g, off, none⟩) k c q (by omega)
        have hcl : ∀ ty, (Builtin.clear_ #[28] ty #[.slice (some ⟨g, off + q * 3, none⟩) (k - q) (c - q)]).run Try.prog wr = .ok (.tuple #[]) (wr.setCells g (off + q * 3) (zerosP (k - q))) := fun ty => run_clear_p wr g (off + q * 3) (k - q) (c - q) ty (fun j hj => by rw [Nat.add_assoc]; exact (hroom (q * 3 + j) (by omega)).1) (fun j hj => by rw [Nat.add_assoc]; exact (hroom (q * 3 + j) (by omega)).2)
        have HFI := hide (HS.out.finish HL.out (by omega))
        clear hroom hat
        go_wp2
        go_ret
        rw [HFI.out.1]
        exact ⟨rfl, HFI.out.2.1, HFI.out.2.2.os, HFI.out.2.2.tape, HFI.out.2.2.output, HFI.out.2.2.size, fun i h1 h2 => HFI.out.2.2.block i h1 (fun e => h2 ⟨_, rfl, e.symm⟩)⟩
end Go.Proofs.Ytmjglgdihlomlaa
