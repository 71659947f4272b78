/- TableRoom answers true. -/
import Derived.Test.YtandbkbodlbjcaaRooM
import Derived.Deep.CutRange
import Derived.Deep.CutBlock
namespace Go.Proofs.Ytandbkbodlbjcaa
open Go.RowKit Go.ChangeShapes Go.WideShapes Go.ChangeAt Go.Deep Go.Maps Go.Sort
namespace tableRoom

theorem park_e {κ : Cl} {w : World} {cb : Nat} {T : Tb} (h : TabM κ w cb T) {x : ByteArray} (hx : x.size ≤ 12) (hg : T.goi = [x]) (hl : T.prk.length ≤ 1000) (hw : T.wt ≤ 1000) :
    Calls Try.prog 17 #[.pointer (some ⟨cb, 0, none⟩), .string x, .string ⟨#[]⟩] w fun e w' => e = .returned (.bool true) ∧ ∃ κ', TabM κ' w' cb { T with goi := [], prk := T.prk ++ [(x, ⟨#[]⟩)], wt := T.wt + 1 } ∧ Stp κ κ' w w' := by
  refine (park_any h x ⟨#[]⟩ (by omega) (by decide) hl hw).mono ?_
  rintro e w' ⟨rfl, κ', h1, h2⟩
  have e : parkT T x ⟨#[]⟩ = (true, { T with goi := [], prk := T.prk ++ [(x, ⟨#[]⟩)], wt := T.wt + 1 }) := by
    unfold parkT
    rw [if_neg (by decide), hg, if_pos (inB_iff.2 (by simp))]
    simp [del]
  rw [e] at h1 ⊢
  exact ⟨rfl, κ', h1, h2⟩
theorem end_e {κ : Cl} {w : World} {cb : Nat} {T : Tb} (h : TabM κ w cb T) {x : ByteArray} (hx : x.size ≤ 12) (hg : T.goi = [x]) :
    Calls Try.prog 25 #[.pointer (some ⟨cb, 0, none⟩), .string x] w fun e w' => (∃ b, e = .returned (.bool b)) ∧ TabM κ w' cb { T with goi := [], al := del T.al x } ∧ Stp κ κ w w' := by
  refine (end_any h x (by omega)).mono ?_
  rintro e w' ⟨rfl, h1, h2⟩
  have e : endT T x = (inB T.al x, { T with goi := [], al := del T.al x }) := by
    unfold endT
    rw [hg, if_pos (inB_iff.2 (by simp))]
    simp [del]
  rw [e] at h1 ⊢
  exact ⟨⟨_, rfl⟩, h1, h2⟩

/-- What stands at a round's end. -/
structure RQ (w wr : World) (cb : Nat) (m : Int) (k n : Nat) : Prop where
  ex : ∃ κ T, EM w wr κ cb T none 0 0 [] ∧ RI T m k n
  le : n ≤ k

set_option maxRecDepth 100000 in
set_option maxHeartbeats 16000000 in
theorem walk_main (a0 : Option Addr) (n0 c0 : Nat) (l : List Int) (m : Int) (w : World) (hl : l.length = n0) (hn0 : n0 ≤ 60) (hm1 : 1 ≤ m) (hm15 : m ≤ 15) (hr : Reads w a0 (iV l)) : Calls Try.prog 4 #[.int .i64 m, .slice a0 n0 c0] w fun e w' => e = .returned (.bool true) ∧ Below w.heap.size w w' := by
  have HL := hide hl
  have HR := hide hr
  clear hl hr
  have hn' : ¬ 60 < (n0 : Int) := by omega
  have hw0 : ¬ m < 1 := by omega
  have hw1 : ¬ 15 < m := by omega
  go_enter Try.func4, Try.ntmps4
  go_wp2_with (first
    | (go_at_call 7; go_must ((with_reducible refine (alive_any w).mono ?_); rintro e w1 ⟨rfl, hb1⟩; have HB1 := hide hb1; have C8 := hide (new_any m w1); clear hb1))
    | (go_at_call 8; go_must ((with_reducible refine C8.out.mono ?_); rintro e w2 ⟨rfl, hT, hB⟩; have HM := hide (EM.start HB1.out hT hB); clear hT hB)))
  clear C8
  generalize paint (fun _ => none) w1.heap.size .box = κ0 at HM
  generalize w1.heap.size = cb at HM ⊢
  go_loopw [7, 8] (fun nn i wr => ∃ (k n : Nat), k ≤ n0 ∧ n ≤ k ∧ nn = .int .i64 (n : Nat) ∧ i = .int .i64 (k : Nat) ∧ Hid (RQ w wr cb m k n)) (fun _ i _ => n0 - (intOf i).toNat)
  case atStart => exact ⟨0, 0, by omega, by omega, rfl, rfl, hide ⟨⟨κ0, Tb.new m, HM.out, RI.new m⟩, Nat.le_refl _⟩⟩
  case round =>
    obtain ⟨k, n, hk, hnk, rfl, rfl, HQ⟩ := hrel
    by_cases hlt : k < n0
    · obtain ⟨κ, T, hM, hI⟩ := HQ.out.ex
      obtain ⟨b, off, rfl, hc0⟩ := iv_at HR.out (show k < l.length by have := HL.out; omega)
      have hc := keep_cell hc0 hM.bel
      have HC0 := hide hc0
      clear hc0
      generalize l.getD k 0 = x at *
      have hbt : bits .and .i64 x 3 = x % 4 := i64_mask 2 (by omega) x
      obtain ⟨q, hq⟩ : ∃ q : Nat, x % 4 = q := ⟨(x % 4).toNat, by omega⟩
      rw [hq] at hbt
      have hq4 : q = 0 ∨ q = 1 ∨ q = 2 ∨ q = 3 := by omega
      clear hq
      have hk60 : k < 60 := by omega
      have kk : ∀ w : World, (convert 63 31 (.slice (some ⟨w.heap.size, 0, none⟩) 2 2)).run Try.prog (w.alloc (.cells #[.int .u8 ((k : Int) % 16), .int .u8 ((k : Int) / 16)] 5)) = .ok (.string (idB (k % 16) (k / 16))) (w.alloc (.cells #[.int .u8 ((k : Int) % 16), .int .u8 ((k : Int) / 16)] 5)) := fun w => by
        have := conv2 (k % 16) (k / 16) w
        push_cast at this
        exact this
      have hwq : IntKind.u8.wrap ((k : Int) / 16) = (k : Int) / 16 := by rw [IntKind.wrap_u8]; omega
      have HZ := hide (idB_size (k % 16) (k / 16))
      have HM1 := hide (hM.below (below_new wr (.cells #[.int .u8 ((k : Int) % 16), .int .u8 ((k : Int) / 16)] 5)))
      have HI := hide hI
      have hla := hI.la
      have hln := hI.ln
      clear hM hI HQ
      by_cases hnm : (n : Int) < m
      · have HA := hide (HI.out.add hk60 hnm)
        have HI2 := hide (HI.out.added hk60)
        generalize idB (k % 16) (k / 16) = id at *
        obtain ⟨T2, hT2⟩ : ∃ T2 : Tb, T2 = { T with al := id :: T.al, rdy := T.rdy ++ [id] } := ⟨_, rfl⟩
        rw [← hT2] at HA HI2
        have HTW := hide (show T2.wt = T.wt by rw [hT2])
        have C11 := hide (add_at HM1.out.tab HA.out (by have := HZ.out; omega) (by omega) (by omega))
        have HLT := hide (show (n + 1 : Nat) ≤ k + 1 by omega)
        have hn1 : (n : Int) + 1 = ((n + 1 : Nat) : Int) := by push_cast; rfl
        generalize hN : n + 1 = N at *
        have HNN := hide hN
        clear hla hln hN hT2
        go_upto_block 2 with (first
          | (go_at_call 11; go_must ((with_reducible refine C11.out.mono ?_); rintro e w3 ⟨rfl, κ3, hT3, hS3⟩; have HM3 := hide (HM1.out.step hT3 hS3); have hc3 := keep_cell HC0.out HM3.out.bel; clear hT3 hS3 hc))
          | (go_at_call 10; go_must ((with_reducible refine (num_any _ _).mono ?_); rintro e w4 ⟨rfl, rfl⟩)))
        have HW2 := hide (show T2.wt + 1 ≤ k + 1 by have := HI.out.wt; have := HTW.out; omega)
        have hla2 := HI2.out.la
        have hln2 := HI2.out.ln
        have hle2 := HI2.out.le
        have HG2 := hide HI2.out.g
        have hr2 : T2.rdy.length ≤ 1000 := by omega
        have hp2 : T2.prk.length ≤ 1000 := by omega
        have hg2 : T2.goi.length ≤ 1000 := by rw [HG2.out]; simp
        have HDJ := hide (show ∀ x ∈ T2.rdy, x ∉ T2.goi from fun x _ h => by rw [HG2.out] at h; cases h)
        have HR2 := hide hr2
        have HP2 := hide hp2
        have HGL := hide hg2
        have hNb : N ≤ 1000 := by have := HLT.out; omega
        clear hla2 hln2 hle2 hr2 hp2 hg2
        go_cut [7] from 80 to 113 (fun v wc => ∃ (κ : Cl) (T : Tb) (n : Nat), v = .int .i64 (n : Nat) ∧ n ≤ k + 1 ∧ Hid (EM w wc κ cb T none 0 0 [] ∧ RI T m (k + 1) n))
        case first =>
          rcases hq4 with rfl | rfl | rfl | rfl
          · rcases T2.rdy.eq_nil_or_concat with he | ⟨L, y, hL⟩
            · have C13 := hide (next_none HM3.out.tab (by have := HR2.out; omega) (by have := HGL.out; omega) HDJ.out he)
              clear he
              go_wp2_with (go_at_call 13; go_must ((with_reducible refine C13.out.mono ?_); rintro e w5 ⟨rfl, rfl⟩))
              go_meet
              exact ⟨κ3, T2, N, rfl, HLT.out, hide ⟨HM3.out, HI2.out⟩⟩
            · rw [List.concat_eq_append] at hL
              have HL2 := hide hL
              have C13 := hide (next_some HM3.out.tab (by have := HR2.out; omega) (by have := HGL.out; omega) HDJ.out hL)
              clear hL
              go_wp2_with (first
                | (go_at_call 13; go_must ((with_reducible refine C13.out.mono ?_); rintro e w5 ⟨rfl, hy, κ5, hT5, hS5⟩; have HM5 := hide (HM3.out.step hT5 hS5); have C17 := hide (park_e HM5.out.tab hy (by show y :: T2.goi = [y]; rw [HG2.out]) HP2.out (by have := HW2.out; show T2.wt ≤ 1000; omega)); clear hT5 hS5 hy))
                | (go_at_call 17; go_must ((with_reducible refine C17.out.mono ?_); rintro e w6 ⟨rfl, κ6, hT6, hS6⟩; have HM6 := hide (HM5.out.step hT6 hS6); clear hT6 hS6)))
              go_meet
              exact ⟨κ6, _, N, rfl, HLT.out, hide ⟨HM6.out, HI2.out.parked HL2.out HW2.out⟩⟩
          · rcases T2.rdy.eq_nil_or_concat with he | ⟨L, y, hL⟩
            · have C13 := hide (next_none HM3.out.tab (by have := HR2.out; omega) (by have := HGL.out; omega) HDJ.out he)
              clear he
              go_wp2_with (go_at_call 13; go_must ((with_reducible refine C13.out.mono ?_); rintro e w5 ⟨rfl, rfl⟩))
              go_meet
              exact ⟨κ3, T2, N, rfl, HLT.out, hide ⟨HM3.out, HI2.out⟩⟩
            · rw [List.concat_eq_append] at hL
              have hgo := HI2.out.gone (L := L) (x := y) (by rw [hL]; exact List.perm_append_comm)
              have HGO := hide hgo.1
              have hN1 := hgo.2.1
              have hN2 : (N : Int) - 1 = ((N - 1 : Nat) : Int) := by omega
              have hN4 : N - 1 ≤ 1000 := by omega
              have HN3 := hide (show N - 1 ≤ k + 1 by have := HLT.out; omega)
              have C13 := hide (next_some HM3.out.tab (by have := HR2.out; omega) (by have := HGL.out; omega) HDJ.out hL)
              clear hL hgo
              go_wp2_with (first
                | (go_at_call 13; go_must ((with_reducible refine C13.out.mono ?_); rintro e w5 ⟨rfl, hy, κ5, hT5, hS5⟩; have HM5 := hide (HM3.out.step hT5 hS5); have C25 := hide (end_e HM5.out.tab hy (by show y :: T2.goi = [y]; rw [HG2.out])); clear hT5 hS5 hy))
                | (go_at_call 25; go_must ((with_reducible refine C25.out.mono ?_); rintro e w6 ⟨⟨b6, rfl⟩, hT6, hS6⟩; have HM6 := hide (HM5.out.step hT6 hS6); clear hT6 hS6)))
              go_meet
              exact ⟨κ5, _, N - 1, rfl, HN3.out, hide ⟨HM6.out, HGO.out⟩⟩
          · cases hL : T2.rdy with
            | nil =>
              have C23 := hide (steal_none HM3.out.tab (by have := HR2.out; omega) hL)
              clear hL
              go_wp2_with (go_at_call 23; go_must ((with_reducible refine C23.out.mono ?_); rintro e w5 ⟨rfl, rfl⟩))
              go_meet
              exact ⟨κ3, T2, N, rfl, HLT.out, hide ⟨HM3.out, HI2.out⟩⟩
            | cons y L =>
              have hgo := HI2.out.gone (L := L) (x := y) (by rw [hL])
              have HGO := hide (HI2.out.stolen (L := L) (x := y) (by rw [hL]))
              have hN1 := hgo.2.1
              have hN2 : (N : Int) - 1 = ((N - 1 : Nat) : Int) := by omega
              have hN4 : N - 1 ≤ 1000 := by omega
              have HN3 := hide (show N - 1 ≤ k + 1 by have := HLT.out; omega)
              have C23 := hide (steal_some HM3.out.tab (by have := HR2.out; omega) hL)
              clear hL hgo
              go_wp2_with (go_at_call 23; go_must ((with_reducible refine C23.out.mono ?_); rintro e w5 ⟨rfl, -, hT5, hS5⟩; have HM5 := hide (HM3.out.step hT5 hS5); clear hT5 hS5))
              go_meet
              exact ⟨κ3, _, N - 1, rfl, HN3.out, hide ⟨HM5.out, HGO.out⟩⟩
          · go_wp2
            go_meet
            exact ⟨κ3, T2, N, rfl, HLT.out, hide ⟨HM3.out, HI2.out⟩⟩
        case rest =>
          obtain ⟨κ5, T5, n5, rfl, hn5, HI5⟩ := hcut
          have hT5 := HI5.out.1.tab
          have hla := HI5.out.2.la
          have hln := HI5.out.2.ln
          have hle := HI5.out.2.le
          have HND := hide (show (T5.prk.map Prod.fst).Nodup from (List.nodup_append.1 HI5.out.2.nd).2.1)
          have HG5 := hide HI5.out.2.g
          have C31 := hide (len_any hT5.drew)
          rw [hla] at C31
          obtain ⟨r5, hr5⟩ : ∃ r5, r5 = T5.rdy.length := ⟨_, rfl⟩
          obtain ⟨p5, hp5⟩ : ∃ p5, p5 = T5.prk.length := ⟨_, rfl⟩
          have C27 := hide (ready_n hT5.drew (by omega))
          rw [← hr5] at C27
          have HP5 := hide hp5
          have hsum : (r5 : Int) + (p5 : Int) = (n5 : Int) := by omega
          have hb5 : n5 ≤ 1000 := by omega
          have hwn : IntKind.i64.wrap (n5 : Int) = (n5 : Int) := by rw [IntKind.wrap_i64]; omega
          have hb6 : r5 ≤ 1000 := by omega
          have hb7 : p5 ≤ 1000 := by omega
          have HT5 := hide hT5.drew
          have HB5 := hide HI5.out.1.bel
          have HI6 := hide HI5.out.2
          have HE5 := hide HI5.out.1
          clear hT5 hla hln hle hr5 hp5 HI5
          go_upto_region 29 with fail
          go_region_held3 (fun _ => True) (exact True.intro) (first
            | (go_at_call 31; (with_reducible refine C31.out.mono ?_); rintro e w5 ⟨rfl, rfl⟩)
            | (go_at_call 27; (with_reducible refine C27.out.mono ?_); rintro e w6 ⟨a6, c6, rfl, hb8⟩; have HB6 := hide (below_undrew hb8); have HT6 := hide (HT5.out.below hb8); have C28 := hide (parked_n HT6.out (by have := HP5.out; omega) HND.out); rw [← HP5.out] at C28; clear hb8)
            | (go_at_call 28; (with_reducible refine C28.out.mono ?_); rintro e w7 ⟨a7, c7, rfl, hb9⟩; have HB7 := hide hb9; have HT7 := hide (HT6.out.below hb9); have C29 := hide (going_n HT7.out HG5.out); clear hb9)
            | (go_at_call 29; (with_reducible refine C29.out.mono ?_); rintro e w8 ⟨a8, c8, rfl, hb10⟩; have HB8 := hide hb10; clear hb10))
          go_wp2
          go_roundw
          case rel => exact ⟨k + 1, n5, by omega, by omega, rfl, by go_num, hide ⟨⟨κ5, T5, ((HE5.out.below HB6.out).below HB7.out).below HB8.out, HI6.out⟩, by omega⟩⟩
          case measure => simp [intOf]; omega

      · have HA := hide (HI.out.full hk60 hm1 hnm)
        have HI2 := hide HI.out.more
        generalize idB (k % 16) (k / 16) = id at *
        have C11 := hide (add_at HM1.out.tab HA.out (by have := HZ.out; omega) (by omega) (by omega))
        have HLT := hide (show (n : Nat) ≤ k + 1 by omega)
        have HTW := hide (show T.wt = T.wt from rfl)
        obtain ⟨N, hN⟩ : ∃ N, N = n := ⟨_, rfl⟩
        rw [← hN] at HI2 HLT hnm ⊢
        clear hla hln hN
        go_upto_block 2 with (first
          | (go_at_call 11; go_must ((with_reducible refine C11.out.mono ?_); rintro e w3 ⟨rfl, κ3, hT3, hS3⟩; have HM3 := hide (HM1.out.step hT3 hS3); have hc3 := keep_cell HC0.out HM3.out.bel; clear hT3 hS3 hc))
          | (go_at_call 10; go_must ((with_reducible refine (num_any _ _).mono ?_); rintro e w4 ⟨rfl, rfl⟩)))
        have HW2 := hide (show T.wt + 1 ≤ k + 1 by have := HI.out.wt; have := HTW.out; omega)
        have hla2 := HI2.out.la
        have hln2 := HI2.out.ln
        have hle2 := HI2.out.le
        have HG2 := hide HI2.out.g
        have hr2 : T.rdy.length ≤ 1000 := by omega
        have hp2 : T.prk.length ≤ 1000 := by omega
        have hg2 : T.goi.length ≤ 1000 := by rw [HG2.out]; simp
        have HDJ := hide (show ∀ x ∈ T.rdy, x ∉ T.goi from fun x _ h => by rw [HG2.out] at h; cases h)
        have HR2 := hide hr2
        have HP2 := hide hp2
        have HGL := hide hg2
        have hNb : N ≤ 1000 := by have := HLT.out; omega
        clear hla2 hln2 hle2 hr2 hp2 hg2
        go_cut [7] from 80 to 113 (fun v wc => ∃ (κ : Cl) (T : Tb) (n : Nat), v = .int .i64 (n : Nat) ∧ n ≤ k + 1 ∧ Hid (EM w wc κ cb T none 0 0 [] ∧ RI T m (k + 1) n))
        case first =>
          rcases hq4 with rfl | rfl | rfl | rfl
          · rcases T.rdy.eq_nil_or_concat with he | ⟨L, y, hL⟩
            · have C13 := hide (next_none HM3.out.tab (by have := HR2.out; omega) (by have := HGL.out; omega) HDJ.out he)
              clear he
              go_wp2_with (go_at_call 13; go_must ((with_reducible refine C13.out.mono ?_); rintro e w5 ⟨rfl, rfl⟩))
              go_meet
              exact ⟨κ3, T, N, rfl, HLT.out, hide ⟨HM3.out, HI2.out⟩⟩
            · rw [List.concat_eq_append] at hL
              have HL2 := hide hL
              have C13 := hide (next_some HM3.out.tab (by have := HR2.out; omega) (by have := HGL.out; omega) HDJ.out hL)
              clear hL
              go_wp2_with (first
                | (go_at_call 13; go_must ((with_reducible refine C13.out.mono ?_); rintro e w5 ⟨rfl, hy, κ5, hT5, hS5⟩; have HM5 := hide (HM3.out.step hT5 hS5); have C17 := hide (park_e HM5.out.tab hy (by show y :: T.goi = [y]; rw [HG2.out]) HP2.out (by have := HW2.out; show T.wt ≤ 1000; omega)); clear hT5 hS5 hy))
                | (go_at_call 17; go_must ((with_reducible refine C17.out.mono ?_); rintro e w6 ⟨rfl, κ6, hT6, hS6⟩; have HM6 := hide (HM5.out.step hT6 hS6); clear hT6 hS6)))
              go_meet
              exact ⟨κ6, _, N, rfl, HLT.out, hide ⟨HM6.out, HI2.out.parked HL2.out HW2.out⟩⟩
          · rcases T.rdy.eq_nil_or_concat with he | ⟨L, y, hL⟩
            · have C13 := hide (next_none HM3.out.tab (by have := HR2.out; omega) (by have := HGL.out; omega) HDJ.out he)
              clear he
              go_wp2_with (go_at_call 13; go_must ((with_reducible refine C13.out.mono ?_); rintro e w5 ⟨rfl, rfl⟩))
              go_meet
              exact ⟨κ3, T, N, rfl, HLT.out, hide ⟨HM3.out, HI2.out⟩⟩
            · rw [List.concat_eq_append] at hL
              have hgo := HI2.out.gone (L := L) (x := y) (by rw [hL]; exact List.perm_append_comm)
              have HGO := hide hgo.1
              have hN1 := hgo.2.1
              have hN2 : (N : Int) - 1 = ((N - 1 : Nat) : Int) := by omega
              have hN4 : N - 1 ≤ 1000 := by omega
              have HN3 := hide (show N - 1 ≤ k + 1 by have := HLT.out; omega)
              have C13 := hide (next_some HM3.out.tab (by have := HR2.out; omega) (by have := HGL.out; omega) HDJ.out hL)
              clear hL hgo
              go_wp2_with (first
                | (go_at_call 13; go_must ((with_reducible refine C13.out.mono ?_); rintro e w5 ⟨rfl, hy, κ5, hT5, hS5⟩; have HM5 := hide (HM3.out.step hT5 hS5); have C25 := hide (end_e HM5.out.tab hy (by show y :: T.goi = [y]; rw [HG2.out])); clear hT5 hS5 hy))
                | (go_at_call 25; go_must ((with_reducible refine C25.out.mono ?_); rintro e w6 ⟨⟨b6, rfl⟩, hT6, hS6⟩; have HM6 := hide (HM5.out.step hT6 hS6); clear hT6 hS6)))
              go_meet
              exact ⟨κ5, _, N - 1, rfl, HN3.out, hide ⟨HM6.out, HGO.out⟩⟩
          · cases hL : T.rdy with
            | nil =>
              have C23 := hide (steal_none HM3.out.tab (by have := HR2.out; omega) hL)
              clear hL
              go_wp2_with (go_at_call 23; go_must ((with_reducible refine C23.out.mono ?_); rintro e w5 ⟨rfl, rfl⟩))
              go_meet
              exact ⟨κ3, T, N, rfl, HLT.out, hide ⟨HM3.out, HI2.out⟩⟩
            | cons y L =>
              have hgo := HI2.out.gone (L := L) (x := y) (by rw [hL])
              have HGO := hide (HI2.out.stolen (L := L) (x := y) (by rw [hL]))
              have hN1 := hgo.2.1
              have hN2 : (N : Int) - 1 = ((N - 1 : Nat) : Int) := by omega
              have hN4 : N - 1 ≤ 1000 := by omega
              have HN3 := hide (show N - 1 ≤ k + 1 by have := HLT.out; omega)
              have C23 := hide (steal_some HM3.out.tab (by have := HR2.out; omega) hL)
              clear hL hgo
              go_wp2_with (go_at_call 23; go_must ((with_reducible refine C23.out.mono ?_); rintro e w5 ⟨rfl, -, hT5, hS5⟩; have HM5 := hide (HM3.out.step hT5 hS5); clear hT5 hS5))
              go_meet
              exact ⟨κ3, _, N - 1, rfl, HN3.out, hide ⟨HM5.out, HGO.out⟩⟩
          · go_wp2
            go_meet
            exact ⟨κ3, T, N, rfl, HLT.out, hide ⟨HM3.out, HI2.out⟩⟩
        case rest =>
          obtain ⟨κ5, T5, n5, rfl, hn5, HI5⟩ := hcut
          have hT5 := HI5.out.1.tab
          have hla := HI5.out.2.la
          have hln := HI5.out.2.ln
          have hle := HI5.out.2.le
          have HND := hide (show (T5.prk.map Prod.fst).Nodup from (List.nodup_append.1 HI5.out.2.nd).2.1)
          have HG5 := hide HI5.out.2.g
          have C31 := hide (len_any hT5.drew)
          rw [hla] at C31
          obtain ⟨r5, hr5⟩ : ∃ r5, r5 = T5.rdy.length := ⟨_, rfl⟩
          obtain ⟨p5, hp5⟩ : ∃ p5, p5 = T5.prk.length := ⟨_, rfl⟩
          have C27 := hide (ready_n hT5.drew (by omega))
          rw [← hr5] at C27
          have HP5 := hide hp5
          have hsum : (r5 : Int) + (p5 : Int) = (n5 : Int) := by omega
          have hb5 : n5 ≤ 1000 := by omega
          have hwn : IntKind.i64.wrap (n5 : Int) = (n5 : Int) := by rw [IntKind.wrap_i64]; omega
          have hb6 : r5 ≤ 1000 := by omega
          have hb7 : p5 ≤ 1000 := by omega
          have HT5 := hide hT5.drew
          have HB5 := hide HI5.out.1.bel
          have HI6 := hide HI5.out.2
          have HE5 := hide HI5.out.1
          clear hT5 hla hln hle hr5 hp5 HI5
          go_upto_region 29 with fail
          go_region_held3 (fun _ => True) (exact True.intro) (first
            | (go_at_call 31; (with_reducible refine C31.out.mono ?_); rintro e w5 ⟨rfl, rfl⟩)
            | (go_at_call 27; (with_reducible refine C27.out.mono ?_); rintro e w6 ⟨a6, c6, rfl, hb8⟩; have HB6 := hide (below_undrew hb8); have HT6 := hide (HT5.out.below hb8); have C28 := hide (parked_n HT6.out (by have := HP5.out; omega) HND.out); rw [← HP5.out] at C28; clear hb8)
            | (go_at_call 28; (with_reducible refine C28.out.mono ?_); rintro e w7 ⟨a7, c7, rfl, hb9⟩; have HB7 := hide hb9; have HT7 := hide (HT6.out.below hb9); have C29 := hide (going_n HT7.out HG5.out); clear hb9)
            | (go_at_call 29; (with_reducible refine C29.out.mono ?_); rintro e w8 ⟨a8, c8, rfl, hb10⟩; have HB8 := hide hb10; clear hb10))
          go_wp2
          go_roundw
          case rel => exact ⟨k + 1, n5, by omega, by omega, rfl, by go_num, hide ⟨⟨κ5, T5, ((HE5.out.below HB6.out).below HB7.out).below HB8.out, HI6.out⟩, by omega⟩⟩
          case measure => simp [intOf]; omega

    · obtain rfl : k = n0 := by omega
      obtain ⟨κ, T, hM, hI⟩ := HQ.out.ex
      have HB := hide hM.bel
      clear hM hI
      go_wp2
      go_ret
      exact ⟨rfl, HB.out⟩

theorem walk (m : Int) (a : Option Addr) (n c : Nat) (l : List Int) (w : World) (_hx : -9223372036854775808 ≤ m ∧ m ≤ 9223372036854775807) (hl : l.length = n) (_hB : In64 l) (hm : n ≤ maxLen) (hr : Reads w a (iV l)) : Calls Try.prog 4 #[.int .i64 m, .slice a n c] w fun e w' => e = .returned (.bool true) ∧ Below w.heap.size w w' := by
  have hm' : n ≤ 9223372036854775807 := by unfold maxLen at hm; omega
  by_cases h0 : 1 ≤ m
  · by_cases h1 : m ≤ 15
    · by_cases h : n ≤ 60
      · exact walk_main a n c l m w hl h h0 h1 hr
      · have h' : 60 < (n : Int) := by omega
        have h0' : ¬ m < 1 := by omega
        have h1' : ¬ 15 < m := by omega
        go_enter Try.func4, Try.ntmps4
        go_wp2_with (go_at_call 7; go_must ((with_reducible refine (alive_any w).mono ?_); rintro e w1 ⟨rfl, hb1⟩))
        go_ret
        exact ⟨rfl, hb1⟩
    · have h0' : ¬ m < 1 := by omega
      have h1' : 15 < m := by omega
      go_enter Try.func4, Try.ntmps4
      go_wp2_with (go_at_call 7; go_must ((with_reducible refine (alive_any w).mono ?_); rintro e w1 ⟨rfl, hb1⟩))
      go_ret
      exact ⟨rfl, hb1⟩
  · have h0' : m < 1 := by omega
    go_enter Try.func4, Try.ntmps4
    go_wp2_with (go_at_call 7; go_must ((with_reducible refine (alive_any w).mono ?_); rintro e w1 ⟨rfl, hb1⟩))
    go_ret
    exact ⟨rfl, hb1⟩
end tableRoom
end Go.Proofs.Ytandbkbodlbjcaa
