/- slices.IndexFunc and slices.DeleteFunc of members. -/
import Derived.Test.YthjkfpcbbjmclaaCln
namespace Go.Proofs.Ythjkfpcbbjmclaa
open Go.RowKit Go.ChangeShapes Go.WideShapes Go.ChangeAt Go.Deep

/-- What IndexFunc answers. -/
def IdxP (ns : List Int) (l : List Mb) (r : Int) : Prop := (r = -1 ∧ ∀ x ∈ l, inI ns x.1 = false) ∨ ∃ k, ∃ h : k < l.length, r = (k : Int) ∧ inI ns l[k].1 = true ∧ ∀ j (hj : j < l.length), j < k → inI ns l[j].1 = false

set_option linter.unusedSimpArgs false in
set_option maxRecDepth 100000 in
set_option maxHeartbeats 2000000 in
theorem idx_any (T gb : Nat) (ns : List Int) (ms : List Mb) (a : Option Addr) (l c : Nat) (w : World) (hl : ms.length = l) (hlen : l ≤ 20000) (hr : Reads w a (mV ms)) (hN : NsM T w gb ns) (hT : T ≤ w.heap.size) :
    Calls Try.prog 38 #[.slice a l c, .func (.func 28) #[] #[.pointer (some ⟨gb, 0, none⟩)]] w fun e w' => ∃ r, e = .returned (.int .i64 r) ∧ IdxP ns ms r ∧ Below w.heap.size w w' := by
  have HR := hide hr
  have HL := hide hl
  have HN := hide hN
  have HT := hide hT
  have H0 := hide (show ∀ j (hj : j < ms.length), j < 0 → inI ns ms[j].1 = false from fun j _ h => by omega)
  clear hr hl hN hT
  go_enter Try.func38, Try.ntmps38
  go_wp2
  go_loopw [8] (fun i wr => Hid (Below w.heap.size w wr) ∧ ∃ k : Nat, k ≤ l ∧ i = .int .i64 (k : Nat) ∧ Hid (∀ j (hj : j < ms.length), j < k → inI ns ms[j].1 = false)) (fun i _ => l - (intOf i).toNat)
  case atStart => exact ⟨hide (Below.refl _ _), 0, Nat.zero_le _, rfl, H0⟩
  case round =>
    obtain ⟨HB, k, hk, rfl, HA⟩ := hrel
    by_cases hlt : k < l
    · have hkl : k < ms.length := by have := HL.out; omega
      have hlt' : (k : Int) < (l : Int) := by omega
      obtain ⟨g, off, har, y0, y1⟩ := mem_at (HR.out.below HB.out) hkl
      subst har
      have C28 := hide (goes_any T gb ns ms[k].1 ms[k].2 wr (HN.out.keep (HB.out.mono HT.out)))
      have HT := hide (fun (h : inI ns ms[k].1 = true) => show IdxP ns ms (k : Int) from .inr ⟨k, hkl, rfl, h, HA.out⟩)
      have HN := hide (fun (h : inI ns ms[k].1 = false) j (h1 : j < ms.length) (h2 : j < k + 1) => show inI ns ms[j].1 = false by
        rcases Nat.lt_or_eq_of_le (Nat.le_of_lt_succ h2) with h3 | rfl
        · exact HA.out j h1 h3
        · exact h)
      generalize inI ns ms[k].1 = R at C28 HT HN
      generalize ms[k].1 = f at y0 C28
      generalize ms[k].2 = t at y1 C28
      clear hkl
      cases R
      · have HN2 := hide (HN.out rfl)
        go_wp2_with (go_at_call 28; go_must ((with_reducible refine C28.out.mono ?_); rintro e w1 ⟨rfl, hb1⟩; have HB1 := hide (HB.out.trans (hb1.mono HB.out.size)); clear hb1))
        go_roundw
        case rel => exact ⟨HB1, k + 1, by omega, by go_num, HN2⟩
        case measure => simp [intOf]; omega
      · have HT2 := hide (HT.out rfl)
        go_wp2_with (go_at_call 28; go_must ((with_reducible refine C28.out.mono ?_); rintro e w1 ⟨rfl, hb1⟩; have HB1 := hide (HB.out.trans (hb1.mono HB.out.size)); clear hb1))
        go_ret
        exact ⟨_, rfl, HT2.out, HB1.out⟩
    · obtain rfl : k = l := by omega
      have HF := hide (show IdxP ns ms (-1) from .inl ⟨rfl, fun x hx => by
        obtain ⟨i, hi, rfl⟩ := List.getElem_of_mem hx
        exact HA.out i hi (by have := HL.out; omega)⟩)
      go_wp2
      go_ret
      exact ⟨_, rfl, HF.out, HB.out⟩

def stM (ns : List Int) (x : Mb) : Bool := !inI ns x.1
theorem stay_take {l : List Mb} {k : Nat} {p : Mb → Bool} (h : k < l.length) : (l.take (k + 1)).filter p = (l.take k).filter p ++ (if p l[k] then [l[k]] else []) := by
  rw [List.take_succ_eq_append_getElem h, List.filter_append]
  congr 1
  by_cases hp : p l[k] = true
  · rw [if_pos hp]; simp [hp]
  · rw [if_neg hp]; simp [hp]
/-- The row behind k looks. -/
structure DelS (T : Nat) (w wr : World) (g n c : Nat) (ns : List Int) (l : List Mb) (q k : Nat) (cur : List Mb) : Prop where
  bl : Below T w wr
  row : Own T wr (.slice (some ⟨g, 0, none⟩) n c) n cur
  done : cur.take q = (l.take k).filter (stM ns)
  rest : cur.drop k = l.drop k
theorem DelS.at {T : Nat} {w wr : World} {g n c : Nat} {ns : List Int} {l cur : List Mb} {q k : Nat} (h : DelS T w wr g n c ns l q k cur) (hl : l.length = n) (hk : k < n) : ∃ hc : k < cur.length, ∃ hl : k < l.length, cur[k] = l[k] := by
  have h1 := h.row.len
  refine ⟨by omega, by omega, ?_⟩
  have h2 := congrArg (fun z => z[0]?) h.rest
  simp only [List.getElem?_drop, Nat.add_zero] at h2
  rw [List.getElem?_eq_getElem (by omega), List.getElem?_eq_getElem (by omega)] at h2
  simpa using h2
theorem DelS.skip {T : Nat} {w wr w' : World} {g n c : Nat} {ns : List Int} {l cur : List Mb} {q k : Nat} (h : DelS T w wr g n c ns l q k cur) (hT : T ≤ w.heap.size) (hb : Below wr.heap.size wr w') (hk : k < l.length) (hs : stM ns l[k] = false) : DelS T w w' g n c ns l q (k + 1) cur where
  bl := h.bl.trans (hb.mono (Nat.le_trans hT h.bl.size))
  row := h.row.below hb
  done := by rw [h.done, stay_take hk, hs]; simp
  rest := by rw [← List.drop_drop, ← List.drop_drop, h.rest]
theorem below_cell {T g o : Nat} {w : World} (hT : T ≤ g) (u : Value) : Below T w (w.setCell ⟨g, o, none⟩ u) :=
  ⟨rfl, rfl, rfl, by simp [World.setCell], fun k hk => Below.heap_setCell _ _ _ _ (by show k ≠ g; omega)⟩
theorem DelS.step {T : Nat} {w wr w' : World} {g n c : Nat} {ns : List Int} {l cur : List Mb} {q k : Nat} (h : DelS T w wr g n c ns l q k cur) (hT : T ≤ w.heap.size) (hb : Below wr.heap.size wr w') (hln : l.length = n) (hk : k < l.length) (hqk : q < k) (hs : stM ns l[k] = true) :
    DelS T w ((w'.setCell ⟨g, q * 2, none⟩ (.int .i64 l[k].1)).setCell ⟨g, q * 2 + 1, none⟩ (.int .i64 l[k].2)) g n c ns l (q + 1) (k + 1) (cur.set q l[k]) := by
  have hrow := h.row.below hb
  obtain ⟨_, _, _, _, _, hTg⟩ := hrow.row.choose_spec
  have hcl := h.row.len
  refine ⟨?_, hrow.put q l[k], ?_, ?_⟩
  · have hk1 := h.bl.trans (hb.mono (Nat.le_trans hT h.bl.size))
    exact hk1.trans ((below_cell hTg _).trans (below_cell hTg _))
  · rw [stay_take hk, hs, ← h.done, List.take_succ_eq_append_getElem (by rw [List.length_set]; omega)]
    simp [List.take_set_of_le]
  · rw [List.drop_set_of_lt (by omega), ← List.drop_drop, ← List.drop_drop, h.rest]
theorem DelS.start {T : Nat} {w wr : World} {g n c : Nat} {ns : List Int} {l : List Mb} {q : Nat} (h : Own T w (.slice (some ⟨g, 0, none⟩) n c) n l) (hT : T ≤ w.heap.size) (hb : Below w.heap.size w wr) (hq : q < l.length) (ht : inI ns l[q].1 = true) (hn : ∀ j (hj : j < l.length), j < q → inI ns l[j].1 = false) : DelS T w wr g n c ns l q (q + 1) l where
  bl := hb.mono hT
  row := h.below hb
  done := by
    rw [stay_take hq, show stM ns l[q] = false by simp [stM, ht]]
    simp only [Bool.false_eq_true, if_false, List.append_nil]
    rw [List.filter_eq_self.2]
    intro x hx
    obtain ⟨i, hi, rfl⟩ := List.getElem_of_mem hx
    rw [List.length_take] at hi
    rw [List.getElem_take]
    simp [stM, hn i (by omega) (by omega)]
  rest := rfl
def DelPost (T : Nat) (w : World) (ns : List Int) (l : List Mb) (e : Ending) (w' : World) : Prop :=
  ∃ v, e = .returned v ∧ Own T w' v (l.filter (stM ns)).length (l.filter (stM ns)) ∧ Below T w w'
theorem DelS.finish {T : Nat} {w wr : World} {g n c : Nat} {ns : List Int} {l cur : List Mb} {q : Nat} {arr : Array Value} (h : DelS T w wr g n c ns l q n cur) (hl : l.length = n) (hq : q ≤ n) (hg : wr.heap[g]? = some (.cells arr 41 (0, 0))) :
    DelPost T w ns l (.returned (.slice (some ⟨g, 0, none⟩) q c)) (wr.setRow g (arr.toList.take (q * 2) ++ zerosM (n - q) ++ arr.toList.drop (q * 2 + (n - q) * 2)).toArray) := by
  have hd := h.done
  rw [List.take_of_length_le (by omega : l.length ≤ n)] at hd
  have hc := h.row.len
  have hlen : (l.filter (stM ns)).length = q := by rw [← hd, List.length_take]; omega
  obtain ⟨_, _, _, _, _, hTg⟩ := h.row.row.choose_spec
  refine ⟨_, rfl, ?_, h.bl.trans (below_row hTg _)⟩
  rw [hlen, ← hd]
  exact h.row.cut hg hq

set_option linter.unusedSimpArgs false in
set_option maxRecDepth 100000 in
set_option maxHeartbeats 4000000 in
/-- slices.DeleteFunc. -/
theorem delf_any (T gb : Nat) (ns : List Int) (ms : List Mb) (v : Value) (n : Nat) (w : World) (h : Own T w v n ms) (hn : n ≤ 20000) (hN : NsM T w gb ns) (hT : T ≤ w.heap.size) :
    Calls Try.prog 26 #[v, .func (.func 28) #[] #[.pointer (some ⟨gb, 0, none⟩)]] w (DelPost T w ns ms) := by
  obtain ⟨a, c, rfl, hnc, hcm, hnil, hr, hbl⟩ := h.form
  have HR := hide h
  have HL := hide h.len
  have HN := hide hN
  have HT := hide hT
  have C38 := hide (idx_any T gb ns ms a n c w h.len hn hr hN hT)
  clear h hN hr hcm
  unfold DelPost
  go_enter Try.func26, Try.ntmps26
  go_upto_region 2 with (go_at_call 38; go_must ((with_reducible refine C38.out.mono ?_); rintro e w1 ⟨r, rfl, hI, hb1⟩; have HI := hide hI; have HB1 := hide hb1; clear hI hb1))
  rcases HI.out with ⟨rfl, hall⟩ | ⟨q, hq, rfl, ht, hbe⟩
  · have HF := hide (show ms.filter (stM ns) = ms from List.filter_eq_self.2 fun x hx => by simp [stM, hall x hx])
    have HP := hide (show Own T w1 (.slice a n c) n ms from HR.out.below HB1.out)
    clear hall HI
    go_wp2
    go_ret
    rw [HF.out, HL.out]
    exact ⟨_, rfl, HP.out, HB1.out.mono HT.out⟩
  · have hqn : q < n := by have := HL.out; omega
    obtain ⟨g, rfl⟩ : ∃ g, a = some ⟨g, 0, none⟩ := by
      cases a with
      | none => have := hnil rfl; omega
      | some ad =>
        obtain ⟨h1, h2, _⟩ := hbl ad rfl
        obtain ⟨x, y, z⟩ := ad
        simp only at h1 h2
        subst h1; subst h2
        exact ⟨x, rfl⟩
    have HS := hide (DelS.start HR.out HT.out HB1.out hq ht hbe)
    clear hq ht hbe HI hnil hbl
    have qm1 : ((q : Int) == -1) = false := by rw [beq_eq_false_iff_ne]; omega
    go_wp2
    go_loopw [5, 6] (fun i j wr => ∃ (q k : Nat) (cur : List Mb), q < k ∧ k ≤ n ∧ i = .int .i64 (q : Nat) ∧ j = .int .i64 (k : Nat) ∧ Hid (DelS T w wr g n c ns ms q k cur)) (fun _ j _ => n - (intOf j).toNat)
    case atStart => exact ⟨q, q + 1, ms, by omega, by omega, rfl, by go_num, HS⟩
    case round =>
      clear HS hqn
      obtain ⟨q, k, cur, hqk, hk, rfl, rfl, HS⟩ := hrel
      have HTr := hide (Nat.le_trans HT.out HS.out.bl.size)
      by_cases hlt : k < n
      · obtain ⟨hkc, hkl, hke⟩ := HS.out.at HL.out hlt
        have hlt' : (k : Int) < (n : Int) := by omega
        have hqi : (q : Int) < (n : Int) := by omega
        have hqn : q < n := by omega
        obtain ⟨_, _, e', -, -, -, hrd, -⟩ := HS.out.row.form
        obtain ⟨rfl, rfl⟩ : _ = _ ∧ _ = _ := by simpa using e'
        obtain ⟨g', off', har, y0, y1⟩ := mem_at hrd hkc
        simp only [Option.some.injEq, Addr.mk.injEq] at har
        obtain ⟨rfl, rfl, -⟩ := har
        rw [hke] at y0 y1
        rw [Nat.zero_add] at y0 y1
        have C28 := hide (fun X (hX : Below wr.heap.size wr X) => goes_any T gb ns ms[k].1 ms[k].2 X (HN.out.keep (HS.out.bl.trans (hX.mono HTr.out))))
        have HSK := hide (fun (hs : stM ns ms[k] = false) w' (hb : Below wr.heap.size wr w') => HS.out.skip HT.out hb hkl hs)
        have HST := hide (fun (hs : stM ns ms[k] = true) w' (hb : Below wr.heap.size wr w') => HS.out.step HT.out hb HL.out hkl hqk hs)
        have HRM := hide (fun w' (hb : Below wr.heap.size wr w') => (HS.out.row.below hb).cell)
        have HSG := hide (show stM ns ms[k] = !inI ns ms[k].1 from rfl)
        rw [HSG.out] at HSK HST
        generalize inI ns ms[k].1 = R at C28 HSK HST HSG
        generalize hx : ms[k] = x at y0 y1 C28 HST
        obtain ⟨f, t⟩ := x
        simp only at y0 y1 C28 HST
        clear HSG hkl hkc hke hx hrd
        go_upto_region 8 with fail
        have hbX := below_new wr (.cells #[.int .i64 f, .int .i64 t] 41)
        have hPX := BoxL.new wr [.int .i64 f, .int .i64 t] 41
        generalize wr.alloc (.cells #[.int .i64 f, .int .i64 t] 41) = X at hbX hPX ⊢
        have C28X := hide (C28.out X hbX)
        have HBX := hide hbX
        have HPX := hide hPX
        obtain ⟨⟨p0, p1⟩, -⟩ := hPX.c2
        clear hbX hPX y0 y1
        cases R
        · go_upto_region 9 with (go_at_call 28; go_must ((with_reducible refine C28X.out.mono ?_); rintro e w2 ⟨rfl, hb2⟩))
          have HB2 := hide (show Below wr.heap.size wr w2 from HBX.out.trans (hb2.mono HBX.out.size))
          obtain ⟨⟨s0, s1⟩, -⟩ := (HPX.out.below hb2).c2
          have hroom := HRM.out w2 HB2.out
          obtain ⟨u0, u0'⟩ := hroom (q * 2) (by omega)
          obtain ⟨u1, u1'⟩ := hroom (q * 2 + 1) (by omega)
          obtain ⟨o0, u0⟩ := Option.isSome_iff_exists.1 u0
          obtain ⟨o1, u1⟩ := Option.isSome_iff_exists.1 u1
          have HN2 := hide (HST.out rfl w2 HB2.out)
          clear hroom hb2 p0 p1
          go_upto_region 10 with fail
          obtain ⟨X4, hX4⟩ : ∃ X4, X4 = (w2.setCell ⟨g, q * 2, none⟩ (.int .i64 f)).setCell ⟨g, q * 2 + 1, none⟩ (.int .i64 t) := ⟨_, rfl⟩
          rw [← hX4] at HN2
          rw [← hX4]
          clear hX4
          go_wp2
          go_roundw
          case rel => exact ⟨q + 1, k + 1, _, by omega, by omega, by go_num, by go_num, HN2⟩
          case measure => simp [intOf]; omega
        · go_wp2_with (go_at_call 28; go_must ((with_reducible refine C28X.out.mono ?_); rintro e w2 ⟨rfl, hb2⟩; have HB2 := hide (show Below wr.heap.size wr w2 from HBX.out.trans (hb2.mono HBX.out.size)); clear hb2))
          go_roundw
          case rel => exact ⟨q, k + 1, cur, by omega, by omega, rfl, by go_num, hide (HSK.out rfl _ HB2.out)⟩
          case measure => simp [intOf]; omega
      · obtain rfl : k = n := by omega
        obtain ⟨arr, hg, hs, -, hkc, -, -⟩ := HS.out.row.row
        have hat : atm g 0 c q = ⟨g, q * 2, none⟩ := by unfold atm; rw [if_neg (by omega), Nat.zero_add]
        have kf : ∀ W, (Instr.slice 22 (.slice (some ⟨g, 0, none⟩) k c) (some (.int .i64 (q : Int))) none none).run Try.prog W = .ok (.slice (some ⟨g, q * 2, none⟩) (k - q) (c - q)) W := fun W => by rw [← hat]; exact slice_from W g 0 k c q (by omega)
        have kt := fun W => slice_to W (some ⟨g, 0, none⟩) k c q (by omega)
        have hcl : ∀ ty, (Builtin.clear_ #[22] ty #[.slice (some ⟨g, q * 2, none⟩) (k - q) (c - q)]).run Try.prog wr = _ := fun ty => run_clear_m wr g (q * 2) (k - q) (c - q) ty arr hg (by omega)
        have HFI := hide (HS.out.finish HL.out (by omega) hg)
        generalize wr.setRow g (arr.toList.take (q * 2) ++ zerosM (k - q) ++ arr.toList.drop (q * 2 + (k - q) * 2)).toArray = Y at HFI hcl
        clear hat hg
        go_wp2
        go_ret
        obtain ⟨v', e', h1, h2⟩ := HFI.out
        cases e'
        exact ⟨_, rfl, h1, h2⟩
end Go.Proofs.Ythjkfpcbbjmclaa
