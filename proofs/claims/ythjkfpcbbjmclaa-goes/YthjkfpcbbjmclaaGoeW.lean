/- ViewGoes' walk. -/
import Derived.Test.YthjkfpcbbjmclaaGoP
import Derived.Test.YthjkfpcbbjmclaaBacW
import Derived.Laws.MakeOwn
namespace Go.Proofs.Ythjkfpcbbjmclaa
open Go.RowKit Go.ChangeShapes Go.WideShapes Go.ChangeAt Go.Deep
namespace viewGoes

theorem Reads.far {w : World} {a : Option Addr} {xs : List Value} {g o : Nat} {v : Value} (h : Reads w a xs) (hg : ∀ ad, a = some ad → ad.block ≠ g) : Reads (w.setCell ⟨g, o, none⟩ v) a xs := by
  rcases h with rfl | ⟨b, off, rfl, h⟩
  · exact .inl rfl
  · refine .inr ⟨b, off, rfl, fun j u hu => ?_⟩
    have hb : b ≠ g := hg _ rfl
    rw [World.cell?_setCell_other (h := fun e => hb (by have := congrArg Addr.block e; first | exact this | exact this.symm))]
    exact h j u hu
theorem box_far {w : World} {g g' o : Nat} {v : Value} {xs : List Value} (h : BoxL w g xs) (hg : g ≠ g') : BoxL (w.setCell ⟨g', o, none⟩ v) g xs := h.grown (grown_setCell _ _ _ _) hg
def bV (G : List Bool) : List Value := G.map Value.bool
theorem Try.info4 : (Try.prog.info? 4).map (fun i => (i.zero, i.size, i.bytes)) = some (some (.bool false), 1, 1) := by kernel_rfl
def G0 : List Bool := List.replicate 16 false
theorem made16 (w : World) : (Instr.makeSlice 48 (.int .i64 16) (.int .i64 16)).run Try.prog w = .ok (.slice (some ⟨w.heap.size, 0, none⟩) 16 16) (w.alloc (.cells (bV G0).toArray 4)) := by
  obtain ⟨i0, hi, hz0, hz1, hz2⟩ := info_parts Try.info4
  have h := run_make (P := Try.prog) w 48 4 i0 (.bool false) Try.underlying48 hi hz0 .i64 .i64 16 16 (by decide) (by decide) (by rw [hz2]; decide) (by decide)
  rw [hz1, show madeCells (Value.bool false).cells ((16 : Int).toNat * 1) = (bV G0).toArray from by kernel_rfl] at h
  exact h
/-- The state ahead of each number. -/
structure GoS (w wr : World) (gv gb n : Nat) (p : Int) (L : List Mb) (G : List Bool) (a : Option Addr) (c : Nat) : Prop where
  bl : Below w.heap.size w wr
  lo : w.heap.size ≤ gv ∧ w.heap.size ≤ gb ∧ gv ≠ gb
  bx : BoxL wr gv [.int .i64 p, .slice a L.length c]
  go : BoxL wr gb (bV G)
  rd : Reads wr a (mV L)
  nil : a = none → L.length = 0 ∧ c = 0
  cap : L.length ≤ c
  far : ∀ ad, a = some ad → ad.block ≠ gv ∧ ad.block ≠ gb
  inv : GoI n p L G
theorem GoS.below {w wr w' : World} {gv gb n : Nat} {p : Int} {L : List Mb} {G : List Bool} {a : Option Addr} {c : Nat} (h : GoS w wr gv gb n p L G a c) (hb : Below wr.heap.size wr w') : GoS w w' gv gb n p L G a c :=
  ⟨h.bl.trans (hb.mono h.bl.size), h.lo, h.bx.below hb, h.go.below hb, h.rd.below hb, h.nil, h.cap, h.far, h.inv⟩

/-- Without of one, with its row apart from what was there. -/
theorem wo_calls {w : World} {er pe : Int} {l : List Mb} {f : Nat} {args : Array Value} {n : Nat} (h : Calls Try.prog f args w (VwPost w pe er l)) (hn : l.length = n) :
    Calls Try.prog f args w fun e w' => ∃ a c, e = .returned (.tuple #[.agg #[.int .i64 pe, .slice a n c], .int .i64 er]) ∧ Hid (a = none → n = 0 ∧ c = 0) ∧ Hid (n ≤ c) ∧ Hid (Reads w' a (mV l)) ∧ Hid (∀ ad, a = some ad → w.heap.size ≤ ad.block) ∧ Hid (Below w.heap.size w w') := by
  refine h.mono ?_
  rintro e w' ⟨v, rfl, ho, hb⟩
  rw [hn] at ho
  obtain ⟨a, c, rfl, h1, h2, h3, h4, h5⟩ := ho.form
  exact ⟨a, c, rfl, hide h3, hide h1, hide h4, hide fun ad e => (h5 ad e).2.2.1, hide hb⟩

set_option linter.unusedSimpArgs false in
set_option maxRecDepth 100000 in
set_option maxHeartbeats 8000000 in
theorem walk1 (n : Nat) (ns : List Int) (a : Option Addr) (m d : Nat) (w : World) (h1 : 1 ≤ n) (hn : n ≤ 16) (hm : ns.length = m) (hml : m ≤ 50) (hr : Reads w a (iV ns)) :
    Calls Try.prog 5 #[.int .i64 (n : Nat), .slice a m d] w fun e w' => e = .returned (.bool true) ∧ Below w.heap.size w w' := by
  have C8 := hide (alive_any w)
  obtain ⟨e1, e2, e3⟩ := fi_yes (n := (n : Int)) (by omega)
  rw [Int.toNat_natCast] at e3
  have C14 := hide (fun X => by have := first_any (n : Int) X; rw [e1, e2, e3] at this; exact view_calls this (fiL_len n))
  have C17 := hide (fun x X => num_any x X)
  have HR := hide hr
  have HM := hide hm
  have q1 : ¬ (n : Int) < 1 := by omega
  have q2 : ¬ (16 : Int) < (n : Int) := by omega
  have q3 : ¬ (50 : Int) < (m : Int) := by omega
  clear e1 e2 e3 hr hm
  go_enter Try.func5, Try.ntmps5
  go_upto_region 5 with first
    | (go_at_call 8; go_must ((with_reducible refine C8.out.mono ?_); rintro e w1 ⟨rfl, hb1⟩; have HB1 := hide hb1; clear hb1))
    | (go_at_call 14; go_must ((with_reducible refine (C14.out _).mono ?_); rintro e w2 ⟨a2, c2, rfl, HN2, HC2, HR2, HB2⟩))
  have HX5 := hide (BoxL.new w2 [.int .i64 1, .slice a2 n c2] 24)
  have HB5 := hide (HB1.out.trans ((HB2.out.trans ((below_new w2 (.cells #[.int .i64 1, .slice a2 n c2] 24)).mono HB2.out.size)).mono HB1.out.size))
  have HR5 := hide (HR2.out.below (below_new w2 (.cells #[.int .i64 1, .slice a2 n c2] 24)))
  have HS5 := hide (show (w2.alloc (.cells #[.int .i64 1, .slice a2 n c2] 24)).heap.size = w2.heap.size + 1 by simp)
  have HLO := hide (Nat.le_trans HB1.out.size HB2.out.size)
  have HFA := hide (show ∀ ad, a2 = some ad → 0 < n → ad.block < w2.heap.size from fun ad e h0 => by
    obtain ⟨b, off, har, y0, -⟩ := mem_at (k := 0) HR2.out (by rw [fiL_len]; exact h0)
    have := cell_some_lt y0
    rw [har] at e
    cases e
    exact this)
  generalize w2.alloc (.cells #[.int .i64 1, .slice a2 n c2] 24) = X5 at HX5 HB5 HR5 HS5 ⊢
  generalize w2.heap.size = g5 at HX5 HS5 HLO HFA ⊢
  have HST := hide (show GoS w (X5.alloc (.cells (bV G0).toArray 4)) g5 X5.heap.size n 1 (fiL n) G0 a2 c2 from
    ⟨HB5.out.trans ((below_new X5 _).mono HB5.out.size), by have := HLO.out; have := HS5.out; omega, by rw [fiL_len]; exact HX5.out.below (below_new X5 _), BoxL.new X5 _ 4, HR5.out.below (below_new X5 _), by rw [fiL_len]; exact HN2.out, by rw [fiL_len]; exact HC2.out.1,
      fun ad e => by have := HFA.out ad e (by omega); have := HS5.out; omega, GoI.start h1 hn⟩)
  have hmk := made16 X5
  have HL0 := hide (fiL_len n)
  clear HX5 HB5 HR5 HS5 HLO HFA HB1 HB2 HR2 HN2 HC2 C8 C14
  go_upto_region 6 with fail
  clear hmk
  generalize X5.alloc (.cells (bV G0).toArray 4) = X6 at HST ⊢
  generalize X5.heap.size = g6 at HST ⊢
  go_wp2
  go_loopw [9, 10] (fun lv i wr => ∃ (k : Nat) (p : Int) (L : List Mb) (G : List Bool) (a : Option Addr) (c : Nat), k ≤ m ∧ i = .int .i64 (k : Nat) ∧ lv = .int .i64 (L.length : Nat) ∧ L.length ≤ 16 ∧ (1 ≤ p ∧ p ≤ 1 + (k : Int)) ∧ Hid (GoS w wr g5 g6 n p L G a c)) (fun _ i _ => m - (intOf i).toNat)
  case atStart => exact ⟨0, 1, fiL n, _, a2, c2, Nat.zero_le _, rfl, by rw [HL0.out], by rw [HL0.out]; exact hn, ⟨by omega, by omega⟩, HST⟩
  case round =>
    clear HST
    obtain ⟨k, p, L, G, va, vc, hk, rfl, rfl, hL, hp, hS⟩ := hrel
    obtain ⟨⟨x0, x1⟩, x2, x3⟩ := hS.out.bx.c2
    by_cases hlt : k < m
    · have hlt' : (k : Int) < (m : Int) := by omega
      have hkn : k < ns.length := by have := HM.out; omega
      obtain ⟨g, off, har, hcs⟩ := reads_at (HR.out.below hS.out.bl) hkn
      subst har
      have hcell := hcs.out k (.int .i64 ns[k]) (by simp [iV, hkn])
      obtain ⟨j, hj⟩ : ∃ j : Nat, ns[k] % 16 = (j : Int) := ⟨(ns[k] % 16).toNat, by omega⟩
      have hj16 : j < 16 := by omega
      generalize ns[k] = x at hcell hj
      have hand : bits .and .i64 x 15 = (j : Int) := by rw [i64_mask15, hj]
      clear hcs hj
      have HC0 := hide (hS.out.inv)
      have hjl : j < G.length := by rw [HC0.out.len]; exact hj16
      have hji : (j : Int) < 16 := by omega
      have HX8 := hide (below_new wr (.cells #[.int .i64 (j : Int)] 3))
      have HRJ := hide (reads_i1 wr (j : Int))
      by_cases hy : 0 < j ∧ j < n ∧ G[j]?.getD true = false
      · obtain ⟨hj0, hjn, hgj⟩ := hy
        have HY := hide (HC0.out.yes hj16 hj0 hjn hgj ⟨hp.1, by omega⟩)
        have hgj2 : G[j] = false := by rw [List.getElem?_eq_getElem hjl] at hgj; simpa using hgj
        generalize L.filter (fun m => !decide (m.1 = (j : Int))) = L' at HY
        have C10 := hide (by
          have := without_any p L [(j : Int)] va L.length vc (some ⟨wr.heap.size, 0, none⟩) 1 1 (wr.alloc (.cells #[.int .i64 (j : Int)] 3)) rfl (by omega) (hS.out.rd.below HX8.out) hS.out.nil rfl (by omega) HRJ.out
          rw [HY.out.e, HY.out.pp, HY.out.ll] at this
          exact wo_calls this (n := L'.length) rfl)
        have hjj : (0 : Int) < (j : Int) := by omega
        have hjj2 : (j : Int) < (n : Int) := by omega
        have hwl : IntKind.i64.wrap ((L.length : Int) - 1) = (L'.length : Int) := by have := HY.out.len; rw [IntKind.wrap_i64]; omega
        have hwp : IntKind.i64.wrap (p + 1) = p + 1 := by rw [IntKind.wrap_i64]; omega
        go_upto_region 12 with (go_at_call 10; go_must ((with_reducible refine C10.out.mono ?_); rintro e w5 ⟨a5, c5, rfl, HN5, HC5, HR5, HF5, HB5⟩))
        have HBX := hide (HX8.out.trans ((HB5.out.trans ((below_new w5 (.cells #[.int .i64 (p + 1), .slice a5 L'.length c5] 24)).mono HB5.out.size)).mono HX8.out.size))
        have HG7 := hide (BoxL.new w5 [.int .i64 (p + 1), .slice a5 L'.length c5] 24)
        have HR7 := hide (HR5.out.below (below_new w5 (.cells #[.int .i64 (p + 1), .slice a5 L'.length c5] 24)))
        have HGS := hide (show wr.heap.size < w5.heap.size from by have := HB5.out.size; simp at this; omega)
        have HF7 := hide (show ∀ ad, a5 = some ad → wr.heap.size < ad.block from fun ad e => by have := HF5.out ad e; simp at this; omega)
        generalize w5.alloc (.cells #[.int .i64 (p + 1), .slice a5 L'.length c5] 24) = X7 at HBX HG7 HR7 ⊢
        generalize w5.heap.size = g7 at HG7 HGS ⊢
        have HS7 := hide (hS.out.below HBX.out)
        have hlt5 := hS.out.bx.1
        have hlt6 := hS.out.go.1
        have hgo := HS7.out.go.2 j (by simpa [bV] using hjl)
        simp only [bV, List.getElem_map, hgj2] at hgo
        obtain ⟨hgo, hgf⟩ := hgo
        have HSZ := hide (And.intro hlt5 hlt6)
        have HP := hide hp
        clear C10 HX8 HRJ x0 x1 x2 x3 hS hcell HR5 HF5 HB5 hlt5 hlt6 hgj hp
        go_upto_region 17 with (go_at_call 17; go_must ((with_reducible refine (C17.out _ _).mono ?_); rintro e X7 ⟨rfl, hw9⟩; subst hw9))
        have HG8 := hide (box_far (o := j) (v := .bool true) HG7.out (show g7 ≠ g6 by have := HGS.out; have := HSZ.out; omega))
        have HV8 := hide (box_far (o := j) (v := .bool true) HS7.out.bx HS7.out.lo.2.2)
        have HGO8 := hide (show BoxL (X7.setCell ⟨g6, j, none⟩ (.bool true)) g6 (bV (G.set j true)) from by
          have := HS7.out.go.put j (.bool true)
          unfold bV at this ⊢
          rw [List.map_set]
          exact this)
        have HR8 := hide (Reads.far (o := j) (v := .bool true) HR7.out (g := g6) (fun ad e => by have := HF7.out ad e; have := HSZ.out; omega))
        have HB8 := hide (HS7.out.bl.trans (below_cell (o := j) HS7.out.lo.2.1 (.bool true)))
        have HLO := hide HS7.out.lo
        generalize X7.setCell ⟨g6, j, none⟩ (.bool true) = X8 at HG8 HV8 HGO8 HR8 HB8 ⊢
        clear HG7 HR7 HBX HS7 hgo hgf HC0
        have HK := hide (show ∀ W, Below X8.heap.size X8 W → (W.cell? ⟨g7, 0, none⟩ = some (.int .i64 (p + 1)) ∧ W.cell? ⟨g7, 1, none⟩ = some (.slice a5 L'.length c5)) ∧ (W.cell? ⟨g5, 0, none⟩ = some (.int .i64 p) ∧ W.cell? ⟨g5, 1, none⟩ = some (.slice va L.length vc)) ∧ (W.frozen? ⟨g5, 0, none⟩ = false ∧ W.frozen? ⟨g5, 1, none⟩ = false) from fun W hW =>
          ⟨(HG8.out.below hW).c2.1, (HV8.out.below hW).c2.1, (HV8.out.below hW).c2.2⟩)
        have C22a := hide (fun W (hW : Below X8.heap.size X8 W) => by have := fenced_any (p + 1) L' (p + 1) (j : Int) 1 a5 L'.length c5 W rfl (by have := HY.out.len; omega) (HR8.out.below hW); rw [HY.out.f1] at this; exact this)
        have C22b := hide (fun W (hW : Below X8.heap.size X8 W) => by have := fenced_any (p + 1) L' (p + 1) 0 1 a5 L'.length c5 W rfl (by have := HY.out.len; omega) (HR8.out.below hW); rw [HY.out.f2] at this; exact this)
        have C22c := hide (fun W (hW : Below X8.heap.size X8 W) => by have := fenced_any (p + 1) L' p 0 1 a5 L'.length c5 W rfl (by have := HY.out.len; omega) (HR8.out.below hW); rw [HY.out.f3] at this; exact this)
        have HQ0 := hide (Below.refl X8.heap.size X8)
        obtain ⟨⟨x0, x1⟩, ⟨y0, y1⟩, -⟩ := HK.out X8 HQ0.out
        go_upto_region 20 with first
          | (go_at_call 22; (with_reducible refine (C22c.out _ HQ2.out).mono ?_); rintro e w10 ⟨rfl, hb⟩; have HQ3 := hide (HQ2.out.trans (hb.mono HQ2.out.size)); clear hb x0 x1 y0 y1)
          | (go_at_call 22; (with_reducible refine (C22b.out _ HQ1.out).mono ?_); rintro e w10 ⟨rfl, hb⟩; have HQ2 := hide (HQ1.out.trans (hb.mono HQ1.out.size)); clear hb x0 x1 y0 y1; obtain ⟨⟨x0, x1⟩, ⟨y0, y1⟩, -⟩ := HK.out _ HQ2.out)
          | (go_at_call 22; (with_reducible refine (C22a.out _ HQ0.out).mono ?_); rintro e w10 ⟨rfl, hb⟩; have HQ1 := hide (HQ0.out.trans (hb.mono HQ0.out.size)); clear hb x0 x1 y0 y1; obtain ⟨⟨x0, x1⟩, ⟨y0, y1⟩, -⟩ := HK.out _ HQ1.out)
        obtain ⟨⟨x0, x1⟩, ⟨y0, y1⟩, y2, y3⟩ := HK.out _ HQ3.out
        clear HK C22a C22b C22c HQ0 HQ1 HQ2
        have HQB := hide (HB8.out.trans (HQ3.out.mono HB8.out.size))
        have HNS := hide (show GoS w (World.setCell (World.setCell _ ⟨g5, 0, none⟩ (.int .i64 (p + 1))) ⟨g5, 1, none⟩ (.slice a5 L'.length c5)) g5 g6 n (p + 1) L' (G.set j true) a5 c5 from
          ⟨below_put2 HQB.out HLO.out.1 _ _, HLO.out, (HV8.out.below HQ3.out).put2 _ _, box_far (box_far (HGO8.out.below HQ3.out) (fun e => HLO.out.2.2 e.symm)) (fun e => HLO.out.2.2 e.symm),
            Reads.far (Reads.far (HR8.out.below HQ3.out) (fun ad e => by have := HF7.out ad e; have := HSZ.out; omega)) (fun ad e => by have := HF7.out ad e; have := HSZ.out; omega),
            HN5.out, HC5.out, fun ad e => by have := HF7.out ad e; have := HSZ.out; omega, HY.out.nx⟩)
        have HLL := hide (show L'.length ≤ 16 from by have := HY.out.len; omega)
        clear HB8 HG8 HV8 HGO8 HR8 HQB
        go_upto_region 9 with fail
        generalize (World.setCell (World.setCell _ ⟨g5, 0, none⟩ (.int .i64 (p + 1))) ⟨g5, 1, none⟩ (.slice a5 L'.length c5)) = X10 at HNS ⊢
        clear x0 x1 y0 y1 y2 y3
        go_wp2
        go_roundw
        case rel => exact ⟨k + 1, p + 1, L', G.set j true, a5, c5, by omega, by go_num, rfl, HLL.out, ⟨by have := HP.out; omega, by have := HP.out; omega⟩, HNS⟩
        case measure => simp [intOf]; omega
      · have HE := hide (HC0.out.no hj16 hy)
        have C10 := hide (by
          have := without_any p L [(j : Int)] va L.length vc (some ⟨wr.heap.size, 0, none⟩) 1 1 (wr.alloc (.cells #[.int .i64 (j : Int)] 3)) rfl (by omega) (hS.out.rd.below HX8.out) hS.out.nil rfl (by omega) HRJ.out
          rw [HE.out] at this
          exact view_calls this rfl)
        generalize woP p L [(j : Int)] = pe at C10
        generalize (woL p L [(j : Int)]).length = nl at C10
        generalize woL p L [(j : Int)] = ll at C10
        have HP := hide hp
        have hgo0 := hS.out.go.2 j (by simpa [bV] using hjl)
        simp only [bV, List.getElem_map] at hgo0
        have hg0 : G[j]?.getD true = G[j] := by rw [List.getElem?_eq_getElem hjl]; rfl
        rw [hg0] at hy
        generalize G[j] = b at hgo0 hy hg0
        go_upto_region 12 with (go_at_call 10; go_must ((with_reducible refine C10.out.mono ?_); rintro e w5 ⟨a5, c5, rfl, -, -, -, HB5⟩))
        have HBX := hide (HX8.out.trans ((HB5.out.trans ((below_new w5 (.cells #[.int .i64 pe, .slice a5 nl c5] 24)).mono HB5.out.size)).mono HX8.out.size))
        generalize w5.alloc (.cells #[.int .i64 pe, .slice a5 nl c5] 24) = X7 at HBX ⊢
        have HS7 := hide (hS.out.below HBX.out)
        have hgo := keep_cell hgo0.1 HBX.out
        clear C10 HX8 HRJ x0 x1 x2 x3 hS hcell HB5 hgo0 hg0 HE HC0 hp HBX
        by_cases hj0 : 0 < j
        · have hjj : (0 : Int) < (j : Int) := by omega
          by_cases hjn : j < n
          · have hjj2 : (j : Int) < (n : Int) := by omega
            obtain rfl : b = true := by cases b with | true => rfl | false => exact absurd ⟨hj0, hjn, rfl⟩ hy
            clear hy
            go_wp2_with (go_at_call 17; go_must ((with_reducible refine (C17.out _ _).mono ?_); rintro e X7 ⟨rfl, hw9⟩; subst hw9))
            go_roundw
            case rel => exact ⟨k + 1, p, L, G, va, vc, by omega, by go_num, rfl, hL, ⟨HP.out.1, by have := HP.out; omega⟩, HS7⟩
            case measure => simp [intOf]; omega
          · have hjj2 : ¬ (j : Int) < (n : Int) := by omega
            clear hy
            go_wp2_with (go_at_call 17; go_must ((with_reducible refine (C17.out _ _).mono ?_); rintro e X7 ⟨rfl, hw9⟩; subst hw9))
            go_roundw
            case rel => exact ⟨k + 1, p, L, G, va, vc, by omega, by go_num, rfl, hL, ⟨HP.out.1, by have := HP.out; omega⟩, HS7⟩
            case measure => simp [intOf]; omega
        · have hjj : ¬ (0 : Int) < (j : Int) := by omega
          clear hy
          go_wp2_with (go_at_call 17; go_must ((with_reducible refine (C17.out _ _).mono ?_); rintro e X7 ⟨rfl, hw9⟩; subst hw9))
          go_roundw
          case rel => exact ⟨k + 1, p, L, G, va, vc, by omega, by go_num, rfl, hL, ⟨HP.out.1, by have := HP.out; omega⟩, HS7⟩
          case measure => simp [intOf]; omega
    · have hlt' : ¬ (k : Int) < (m : Int) := by omega
      have C19 := hide (by have := may_any p L va L.length vc wr rfl (by omega) hS.out.rd; rw [hS.out.inv.may] at this; exact this)
      have C21 := hide (fun X (hX : Below wr.heap.size wr X) => by have := has_any p L 0 1 va L.length vc X rfl (by omega) (hS.out.rd.below hX); rw [hS.out.inv.root] at this; exact this)
      have HBX := hide hS.out.bx
      have HBL := hide hS.out.bl
      clear hS
      go_wp2_with first
        | (go_at_call 17; go_must ((with_reducible refine (C17.out _ _).mono ?_); rintro e X7 ⟨rfl, hw9⟩; subst hw9))
        | (go_at_call 21; go_must ((with_reducible refine (C21.out _ HB5.out).mono ?_); rintro e w6 ⟨rfl, hb⟩; have HB6 := hide (HB5.out.trans (hb.mono HB5.out.size)); clear hb))
        | (go_at_call 19; go_must ((with_reducible refine C19.out.mono ?_); rintro e w5 ⟨rfl, hb⟩; have HB5 := hide hb; obtain ⟨⟨z0, z1⟩, -⟩ := (HBX.out.below hb).c2; clear hb))
      go_ret
      exact ⟨rfl, HBL.out.trans (HB6.out.mono HBL.out.size)⟩

set_option maxRecDepth 100000 in
set_option maxHeartbeats 1000000 in
theorem walk0 (n : Int) (a : Option Addr) (m d : Nat) (w : World) (h : n < 1 ∨ 16 < n ∨ 50 < m) :
    Calls Try.prog 5 #[.int .i64 n, .slice a m d] w fun e w' => e = .returned (.bool true) ∧ Below w.heap.size w w' := by
  have C8 := hide (alive_any w)
  by_cases h0 : n < 1
  · clear h
    go_enter Try.func5, Try.ntmps5
    go_wp2_with (go_at_call 8; go_must ((with_reducible refine C8.out.mono ?_); rintro e w1 ⟨rfl, hb1⟩; have HB1 := hide hb1; clear hb1))
    go_ret
    exact ⟨rfl, HB1.out⟩
  · by_cases h1 : 16 < n
    · clear h
      go_enter Try.func5, Try.ntmps5
      go_wp2_with (go_at_call 8; go_must ((with_reducible refine C8.out.mono ?_); rintro e w1 ⟨rfl, hb1⟩; have HB1 := hide hb1; clear hb1))
      go_ret
      exact ⟨rfl, HB1.out⟩
    · have h2 : (50 : Int) < (m : Int) := by omega
      clear h
      go_enter Try.func5, Try.ntmps5
      go_wp2_with (go_at_call 8; go_must ((with_reducible refine C8.out.mono ?_); rintro e w1 ⟨rfl, hb1⟩; have HB1 := hide hb1; clear hb1))
      go_ret
      exact ⟨rfl, HB1.out⟩
theorem walk (n : Int) (a : Option Addr) (m d : Nat) (ns : List Int) (w : World) (_h : -9223372036854775808 ≤ n ∧ n ≤ 9223372036854775807) (hm : ns.length = m) (_hi : In64 ns) (hr : Reads w a (iV ns)) :
    Calls Try.prog 5 #[.int .i64 n, .slice a m d] w fun e w' => e = .returned (.bool true) ∧ Below w.heap.size w w' := by
  by_cases h : n < 1 ∨ 16 < n ∨ 50 < m
  · exact walk0 n a m d w h
  · obtain ⟨j, rfl⟩ : ∃ j : Nat, n = (j : Int) := ⟨n.toNat, by omega⟩
    exact walk1 j ns a m d w (by omega) (by omega) hm (by omega) hr
end viewGoes
end Go.Proofs.Ythjkfpcbbjmclaa
