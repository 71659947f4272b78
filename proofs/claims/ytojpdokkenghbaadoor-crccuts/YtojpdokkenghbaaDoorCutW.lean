/- The walk of CrcCuts. -/
import Derived.Test.YtojpdokkenghbaaDoorLinW
namespace Go.Proofs.YtojpdokkenghbaaDoor
open Go.RowKit Go.ChangeShapes Go.WideShapes Go.ChangeAt Go.Deep

theorem Tryd.info24 : (Tryd.prog.info? 24).map (fun i => (i.zero, i.size, i.bytes)) = some (some (.slice none 0 0), 1, 24) := by kernel_rfl

theorem i64_mask31 (n : Int) : bits .and .i64 n 31 = n % 32 := i64_mask 5 (by decide) n

/-- A piece of a list. -/
def piece (a : Option Addr) (c : Nat) (b : List Nat) (f t : Nat) : Txt := ⟨if c = f then a else a.map (fun x => x.add f), t - f, c - f, (b.drop f).take (t - f)⟩

theorem piece_ok {w : World} {a : Option Addr} {l c : Nat} {b : List Nat} (H : Arg w a l c b) (f t : Nat) (hft : f ≤ t) (ht : t ≤ l) : (piece a c b f t).ok w := by
  have hlc := H.lec
  refine ⟨?_, (H.byt.drop f).take _, ⟨by simp only [piece]; omega, by have := H.max; simp only [piece]; omega⟩, ?_, ?_⟩
  · simp only [piece, List.length_take, List.length_drop, H.len]; omega
  · intro h
    simp only [piece] at h ⊢
    split at h
    · have := H.nil h; omega
    · cases a with
      | none => have := H.nil rfl; omega
      | some x => simp at h
  · simp only [piece]
    by_cases h : c = f
    · rw [if_pos h]
      have : t - f = 0 := by omega
      exact .inl (by simp [this, bV])
    · rw [if_neg h]
      rcases H.rd with h0 | ⟨g, off, rfl, h0⟩
      · have : b = [] := by simpa [bV] using h0
        exact .inl (by simp [this, bV])
      · refine .inr ⟨g, off + f, ?_, fun j u hu => ?_⟩
        · simp [add_none]
        · have hj : (bV b)[f + j]? = some u := by
            simp only [bV, List.getElem?_map] at hu ⊢
            by_cases hjt : j < t - f
            · rw [List.getElem?_take_of_lt hjt, List.getElem?_drop] at hu; exact hu
            · rw [List.getElem?_eq_none (by rw [List.length_take]; omega)] at hu; cases hu
          rw [Nat.add_assoc]
          exact h0 _ _ hj

/-- A row of texts of one's own. -/
theorem own_rows {w : World} {B n : Nat} {v : Value} {ts : List Txt} (h : w.ownsRow B 24 1 v n (sV ts)) :
    ∃ a cap, v = .slice a n cap ∧ Hid (ts.length = n) ∧ Hid (Reads w a (sV ts)) := by
  have hn : ts.length = n := by have := h.1; simp [sV] at this; omega
  have h' := h
  rcases h.2 with ⟨rfl, h0⟩ | ⟨g, cap, cur, rfl, hB, _, h3, h4, _⟩
  · subst h0
    have hx : ts = [] := List.eq_nil_of_length_eq_zero (by omega)
    subst hx
    exact ⟨none, 0, rfl, hide rfl, hide (.inl rfl)⟩
  · refine ⟨_, cap, rfl, hide hn, hide (.inr ⟨g, 0, rfl, fun j u hu => ?_⟩)⟩
    have := h'.cells (g := g) rfl j u hu
    rwa [add_none] at this

theorem sV_one (ts : List Txt) : ∀ u ∈ sV ts, u.oneCell' = true := by
  intro v hv
  simp only [sV, List.mem_map] at hv
  obtain ⟨x, _, rfl⟩ := hv
  rfl

theorem flat_append (a b : List Txt) : flat (a ++ b) = flat a ++ flat b := by simp [flat]

/-- crc.More of one list of bytes, the row of one just laid. -/
theorem more_one (w : World) (g : Nat) (hg : g = w.heap.size) (s : Nat) (hs : s < 4294967296) (t : Txt) (ht : t.ok w) (hT : Tab w) :
    Calls Tryd.prog 12 #[.int .i64 (s : Nat), .slice (some ⟨g, 0, none⟩) 1 1] (w.alloc (.cells #[.slice t.a t.len t.cap] 24)) fun e w' => e = .returned (.int .i64 (crcMore s t.bs : Nat)) ∧ w' = w.alloc (.cells #[.slice t.a t.len t.cap] 24) := by
  subst hg
  have hb : Below w.heap.size w (w.alloc (.cells #[.slice t.a t.len t.cap] 24)) := (Below.refl _ _).alloc (Nat.le_refl _) _
  have := more_any (s : Nat) (some ⟨w.heap.size, 0, none⟩) 1 1 [t] (w.alloc (.cells #[.slice t.a t.len t.cap] 24)) rfl (by omega) (fun t' ht' => by
    simp at ht'; subst ht'
    exact ht.below hb) (reads_row1 w t) (hT.below hb)
  have e : flat [t] = t.bs := by simp [flat]
  rw [e, s32_nat s hs] at this
  exact this

theorem take_drop_take (b : List Nat) (f t : Nat) (h : f ≤ t) : b.take f ++ (b.drop f).take (t - f) = b.take t := by
  have e : t = f + (t - f) := by omega
  conv => rhs; rw [e]
  rw [List.take_add]
/-- The nil list. -/
def nilT : Txt := ⟨none, 0, 0, []⟩
theorem nilT_ok (w : World) : nilT.ok w := ⟨rfl, (fun x hx => by cases hx), ⟨Nat.le_refl _, by unfold maxLen; simp [nilT]⟩, fun _ => ⟨rfl, rfl⟩, .inl rfl⟩
theorem new_cells (w : World) (xs : List Value) (t : TypeId) : ∀ j u, xs[j]? = some u → (w.alloc (.cells xs.toArray t)).cell? ((⟨w.heap.size, 0, none⟩ : Addr).add j) = some u := by
  intro j u hu
  rw [add_none, World.cell?_alloc_at _ _ _ _ rfl]
  simpa using hu

/-- crc.Sum of nothing. -/
theorem sum_none (w : World) (hT : Tab w) : Calls Tryd.prog 10 #[.slice none 0 0] w fun e w' => e = .returned (.int .i64 0) ∧ w' = w := by
  have h := sum_any none 0 0 [] w rfl (by omega) (fun t ht => by cases ht) (.inl rfl) hT
  have e : crcSum (flat []) = 0 := by decide
  rw [e] at h
  exact h
theorem hH1 {a : Option Addr} {l c : Nat} {b : List Nat} (w w' : World) (hb : Below w.heap.size w w') (H : Arg w a l c b) : Arg w' a l c b := ⟨H.len, H.byt, H.lec, H.max, H.nil, H.rd.below hb⟩

namespace crcCuts
set_option maxRecDepth 100000 in
set_option maxHeartbeats 400000 in
theorem walk1 (ab : Option Addr) (lb cb : Nat) (b : List Nat) (ac : Option Addr) (lc cc : Nat) (ns : List Int) (w : World) (hT : Tab w)
    (H : Arg w ab lb cb b) (hlc : ns.length = lc) (hrc : Reads w ac (iV ns)) :
    Calls Tryd.prog 7 #[.slice ab lb cb, .slice ac lc cc] w fun e w' => e = .returned (.bool true) ∧ Below w.heap.size w w' := by
  obtain ⟨i0, hi, hz0, hz1, hz2⟩ := info_parts Tryd.info24
  replace H := hide H
  by_cases h2000 : lb ≤ 2000
  · by_cases h50 : lc ≤ 50
    · go_enter Tryd.func7, Tryd.ntmps7
      go_wp2_with (first | (go_at_call 8; go_must (refine (alive_any _ hT).mono ?_; rintro e w1 ⟨rfl, hb1⟩)))
      go_loopw [6, 7, 8] (fun v f i wr => ∃ (k F : Nat) (ts : List Txt), k ≤ lc ∧ F ≤ lb ∧ i = .int .i64 (k : Nat) ∧ f = .int .i64 (F : Nat) ∧ ts.length ≤ 2 * k ∧ Hid (∀ t ∈ ts, t.ok w) ∧ Hid (flat ts = b.take F) ∧ wr.ownsRow w.heap.size 24 1 v ts.length (sV ts) ∧ Below w.heap.size w wr) (fun _ _ i _ => lc - (intOf i).toNat)
      case atStart => exact ⟨0, 0, [], Nat.zero_le _, Nat.zero_le _, rfl, rfl, Nat.le_refl _, hide (fun t ht => by cases ht), hide (by simp [flat]), World.ownsRow_nil _ _ _ _, hb1⟩
      case round =>
        obtain ⟨k, F, ts, hk, hF, rfl, rfl, htl, hto, htf, ho, hbel⟩ := hrel
        have hsz := hbel.size
        have hcc := H.out.lec
        have hI1 : (0 : Int) ≤ (F : Int) := by omega
        by_cases hlt : k < lc
        · have hkn : k < ns.length := by omega
          obtain ⟨bc, oc, hac, hcs⟩ := reads_at hrc hkn
          subst hac
          have hcw := hcs.out k (.int .i64 ns[k]) (by simp [iV, hkn])
          have hcell := keep_cell hcw hbel
          have hmk := i64_mask31 ns[k]
          have hm0 : 0 ≤ ns[k] % 32 := Int.emod_nonneg _ (by decide)
          have hm1 : ns[k] % 32 < 32 := Int.emod_lt_of_pos _ (by decide)
          obtain ⟨d, hd⟩ : ∃ d : Nat, ns[k] % 32 = (d : Int) := ⟨(ns[k] % 32).toNat, by omega⟩
          rw [hd] at hmk hm0 hm1
          clear hd hcs hcw
          obtain ⟨cn, hcn⟩ : ∃ cn, cn = ns[k] := ⟨_, rfl⟩
          rw [← hcn] at hcell hmk
          clear hcn
          go_upto_if 42 with fail
          go_cut [9] from 26 to 52 (fun v wc => wc = wr ∧ v = .int .i64 (min (F + d) lb : Nat))
          case first =>
            by_cases h : lb < F + d
            · go_wp2
              go_meet
              case rel => exact ⟨rfl, by rw [Nat.min_eq_right (by omega)]⟩
            · go_wp2
              go_meet
              case rel => exact ⟨rfl, by rw [Nat.min_eq_left (by omega)]; simp⟩
          case rest =>
            obtain ⟨rfl, rfl⟩ := hcut
            have hT1 : F ≤ min (F + d) lb := by omega
            have hT2 : min (F + d) lb ≤ lb := by omega
            generalize min (F + d) lb = T at hT1 hT2 ⊢
            have hTc : T ≤ cb := by omega
            have HPo := hide (piece_ok H.out F T hT1 hT2)
            have HPf := hide (show flat (ts ++ [piece ab cb b F T, nilT]) = b.take T by
              rw [flat_append, htf.out]
              simp only [flat, piece, nilT, List.flatMap_cons, List.flatMap_nil, List.append_nil]
              exact take_drop_take b F T hT1)
            by_cases hcF : cb = F
            · subst hcF
              obtain rfl : cb = T := by omega
              go_wp2_with (at_builtin; go_must (refine wpList_append_own _ rfl (.tmp 45) (.tmp 50) 22 rfl w.heap.size 24 i0 (.slice none 0 0) 1 24 Tryd.underlying22 hi hz0 hz1 hz2 rfl (by decide) u6 _ (sV ts) rfl (ho.alloc _) ⟨wc.heap.size, 0, none⟩ 2 2 [.slice ab 0 0, .slice none 0 0] rfl rfl (new_cells wc _ 24) (by simp [Value.oneCell']) (by unfold maxLen; omega) (by omega) (by simp; omega) ?_; intro v2 w2 ho2 hg2 hnn; clear hnn))
              have hB2 : Below w.heap.size w w2 := (hbel.alloc hsz _).grown hg2 (by simp; omega) (fun q hq => (ho.lt q hq).1)
              have ho3 : w2.ownsRow w.heap.size 24 1 v2 (ts ++ [piece ab cb b cb cb, nilT]).length (sV (ts ++ [piece ab cb b cb cb, nilT])) := by
                simpa [sV, Txt.val, piece, nilT] using ho2
              go_roundw
              case rel => exact ⟨k + 1, cb, _, by omega, by omega, by go_num, rfl, by simp; omega, hide (fun t ht => by
                  rcases List.mem_append.1 ht with h | h
                  · exact hto.out t h
                  · simp only [List.mem_cons, List.not_mem_nil, or_false] at h
                    rcases h with rfl | rfl
                    · exact HPo.out
                    · exact nilT_ok w), HPf, ho3, hB2⟩
              case measure => simp [intOf]; omega
            · have hcF2 : ¬ F = cb := fun h => hcF h.symm
              go_wp2_with (at_builtin; go_must (refine wpList_append_own _ rfl (.tmp 45) (.tmp 50) 22 rfl w.heap.size 24 i0 (.slice none 0 0) 1 24 Tryd.underlying22 hi hz0 hz1 hz2 rfl (by decide) u6 _ (sV ts) rfl (ho.alloc _) ⟨wc.heap.size, 0, none⟩ 2 2 [.slice (Option.map (fun x => x.add F) ab) (T - F) (cb - F), .slice none 0 0] rfl rfl (new_cells wc _ 24) (by simp [Value.oneCell']) (by unfold maxLen; omega) (by omega) (by simp; omega) ?_; intro v2 w2 ho2 hg2 hnn; clear hnn))
              have hB2 : Below w.heap.size w w2 := (hbel.alloc hsz _).grown hg2 (by simp; omega) (fun q hq => (ho.lt q hq).1)
              have ho3 : w2.ownsRow w.heap.size 24 1 v2 (ts ++ [piece ab cb b F T, nilT]).length (sV (ts ++ [piece ab cb b F T, nilT])) := by
                simpa [sV, Txt.val, piece, nilT, hcF] using ho2
              go_roundw
              case rel => exact ⟨k + 1, T, _, by omega, by omega, by go_num, rfl, by simp; omega, hide (fun t ht => by
                  rcases List.mem_append.1 ht with h | h
                  · exact hto.out t h
                  · simp only [List.mem_cons, List.not_mem_nil, or_false] at h
                    rcases h with rfl | rfl
                    · exact HPo.out
                    · exact nilT_ok w), HPf, ho3, hB2⟩
              case measure => simp [intOf]; omega
        · go_upto_region 14 with fail
          go_cut [6] from 12 (fun v wc => ∃ ts : List Txt, ts.length ≤ 101 ∧ Hid (∀ t ∈ ts, t.ok w) ∧ Hid (flat ts = b) ∧ wc.ownsRow w.heap.size 24 1 v ts.length (sV ts) ∧ Below w.heap.size w wc)
          case first =>
            have HPo := hide (piece_ok H.out F lb hF (Nat.le_refl _))
            have HPf := hide (show flat (ts ++ [piece ab cb b F lb]) = b by
              rw [flat_append, htf.out]
              simp only [flat, piece, List.flatMap_cons, List.flatMap_nil, List.append_nil]
              rw [take_drop_take b F lb hF, List.take_of_length_le (by rw [H.out.len]; exact Nat.le_refl _)])
            have hFc : F ≤ cb := by omega
            by_cases hcF : cb = F
            · subst hcF
              have hlbc : lb - cb = 0 := by omega
              go_wp2_with (at_builtin; go_must (refine wpList_append_own _ rfl (.tmp 53) (.tmp 57) 22 rfl w.heap.size 24 i0 (.slice none 0 0) 1 24 Tryd.underlying22 hi hz0 hz1 hz2 rfl (by decide) u6 _ (sV ts) rfl (ho.alloc _) ⟨wr.heap.size, 0, none⟩ 1 1 [.slice ab 0 0] rfl rfl (new_cells wr _ 24) (by simp [Value.oneCell']) (by unfold maxLen; omega) (by omega) (by simp; omega) ?_; intro v2 w2 ho2 hg2 hnn; clear hnn))
              have hB2 : Below w.heap.size w w2 := (hbel.alloc hsz _).grown hg2 (by simp; omega) (fun q hq => (ho.lt q hq).1)
              have ho3 : w2.ownsRow w.heap.size 24 1 v2 (ts ++ [piece ab cb b cb lb]).length (sV (ts ++ [piece ab cb b cb lb])) := by
                simpa [sV, Txt.val, piece, hlbc] using ho2
              go_meet
              case rel => exact ⟨_, by simp; omega, hide (fun t ht => by
                  rcases List.mem_append.1 ht with h | h
                  · exact hto.out t h
                  · simp only [List.mem_cons, List.not_mem_nil, or_false] at h
                    subst h
                    exact HPo.out), HPf, ho3, hB2⟩
            · have hcF2 : ¬ F = cb := fun h => hcF h.symm
              go_wp2_with (at_builtin; go_must (refine wpList_append_own _ rfl (.tmp 53) (.tmp 57) 22 rfl w.heap.size 24 i0 (.slice none 0 0) 1 24 Tryd.underlying22 hi hz0 hz1 hz2 rfl (by decide) u6 _ (sV ts) rfl (ho.alloc _) ⟨wr.heap.size, 0, none⟩ 1 1 [.slice (Option.map (fun x => x.add F) ab) (lb - F) (cb - F)] rfl rfl (new_cells wr _ 24) (by simp [Value.oneCell']) (by unfold maxLen; omega) (by omega) (by simp; omega) ?_; intro v2 w2 ho2 hg2 hnn; clear hnn))
              have hB2 : Below w.heap.size w w2 := (hbel.alloc hsz _).grown hg2 (by simp; omega) (fun q hq => (ho.lt q hq).1)
              have ho3 : w2.ownsRow w.heap.size 24 1 v2 (ts ++ [piece ab cb b F lb]).length (sV (ts ++ [piece ab cb b F lb])) := by
                simpa [sV, Txt.val, piece, hcF] using ho2
              go_meet
              case rel => exact ⟨_, by simp; omega, hide (fun t ht => by
                  rcases List.mem_append.1 ht with h | h
                  · exact hto.out t h
                  · simp only [List.mem_cons, List.not_mem_nil, or_false] at h
                    subst h
                    exact HPo.out), HPf, ho3, hB2⟩
          case rest =>
            obtain ⟨ts2, htl2, hto2, htf2, ho2, hb2⟩ := hcut
            have hs2 := hb2.size
            obtain ⟨a2, c2, rfl, hl2, hr2⟩ := own_rows ho2
            have E0 := sum_none wc (hT.below hb2)
            replace E0 := hide E0
            go_wp2_with (go_at_call 10; go_must (with_reducible refine E0.out.mono ?_; rintro e w4 ⟨rfl, hw4⟩; subst w4))
            generalize hn2 : ts2.length = n2 at htl2 ⊢
            replace hn2 := hide hn2
            go_loopw [10, 11] (fun v i wr => ∃ (k S : Nat), k ≤ n2 ∧ i = .int .i64 (k : Nat) ∧ v = .int .i64 (S : Nat) ∧ Hid (S = crcSum (flat (ts2.take k))) ∧ Below wc.heap.size wc wr) (fun _ i _ => n2 - (intOf i).toNat)
            case atStart => exact ⟨0, 0, Nat.zero_le _, rfl, rfl, hide (by rw [List.take_zero]; decide), Below.refl _ _⟩
            case round =>
              obtain ⟨k, S, hk, rfl, rfl, hS, hbw⟩ := hrel
              have hbx : Below w.heap.size w wr := hb2.trans (hbw.mono hs2)
              by_cases hlt : k < n2
              · have hkn : k < ts2.length := by rw [hn2.out]; exact hlt
                obtain ⟨bl, ol, hal, hcs⟩ := txts_at hr2.out hkn
                subst hal
                have hcell := keep_cell (hcs.out k hkn) hbw
                have ht := (hto2.out ts2[k] (List.getElem_mem _)).below hbx
                have hByt : Byt (flat (ts2.take k)) := flat_byt _ (fun t ht => (hto2.out t (List.mem_of_mem_take ht)).2.1)
                have hSl : S < 4294967296 := by rw [hS.out]; exact crcSum_lt _ hByt
                have C := more_one wr wr.heap.size rfl S hSl ts2[k] ht (hT.below hbx)
                have HN := hide (show crcMore S ts2[k].bs = crcSum (flat (ts2.take (k + 1))) by
                  rw [flat_snoc ts2 k hkn, hS.out]
                  exact (crcMore_append 0 _ _ hByt).symm)
                generalize crcMore S ts2[k].bs = S2 at C HN
                obtain ⟨t, hte⟩ : ∃ t, t = ts2[k] := ⟨_, rfl⟩
                rw [← hte] at C hcell
                clear hte ht hcs
                replace C := hide C
                go_wp2_with (go_at_call 12; go_must (with_reducible refine C.out.mono ?_; rintro e w4 ⟨rfl, hw4⟩; subst w4))
                go_roundw
                case rel => exact ⟨k + 1, S2, by omega, by go_num, rfl, HN, hbw.alloc hbw.size _⟩
                case measure => simp [intOf]; omega
              · have hkn : k = n2 := by omega
                have hZ : S = crcSum b := by rw [hS.out, hkn, ← hn2.out, List.take_length, htf2.out]
                have hsr := hbx.size
                have A1 := hH1 w wr hbx H.out
                have D1 := sum_any a2 ts2.length c2 ts2 wr rfl (by rw [hn2.out]; omega) (oks_below hto2.out hbx) (hr2.out.below hbw) (hT.below hbx)
                rw [htf2.out, hn2.out] at D1
                have D2 := sum_one wr wr.heap.size rfl ab lb cb b A1.len A1.lec A1.max A1.nil A1.byt A1.rd (hT.below hbx)
                have hb5 : Below w.heap.size w (wr.alloc (.cells #[.slice ab lb cb] 24)) := hbx.alloc hsr _
                have A2 := hH1 w _ hb5 H.out
                have D3 := sum_one (wr.alloc (.cells #[.slice ab lb cb] 24)) (wr.heap.size + 1) (by simp) ab lb cb b A2.len A2.lec A2.max A2.nil A2.byt A2.rd (hT.below hb5)
                have hb6 : Below w.heap.size w ((wr.alloc (.cells #[.slice ab lb cb] 24)).alloc (.cells #[.slice ab lb cb] 24)) := hb5.alloc hb5.size _
                have D4 := sum_none ((wr.alloc (.cells #[.slice ab lb cb] 24)).alloc (.cells #[.slice ab lb cb] 24)) (hT.below hb6)
                subst hZ
                generalize crcSum b = Z at D1 D2 D3 hS ⊢
                replace D1 := hide D1
                replace D2 := hide D2
                replace D3 := hide D3
                replace D4 := hide D4
                go_wp2_with (go_at_call 10; go_must (first
                  | (with_reducible refine D1.out.mono ?_; rintro e w4 ⟨rfl, hw4⟩; subst w4)
                  | (with_reducible refine D2.out.mono ?_; rintro e w4 ⟨rfl, hw4⟩; subst w4)
                  | (with_reducible refine D3.out.mono ?_; rintro e w4 ⟨rfl, hw4⟩; subst w4)
                  | (with_reducible refine D4.out.mono ?_; rintro e w4 ⟨rfl, hw4⟩; subst w4)))
                go_ret
                exact ⟨rfl, hb6⟩
    · go_enter Tryd.func7, Tryd.ntmps7
      go_wp2_with (first | (go_at_call 8; go_must (refine (alive_any _ hT).mono ?_; rintro e w1 ⟨rfl, hb1⟩)))
      go_ret
      exact ⟨rfl, hb1⟩
  · go_enter Tryd.func7, Tryd.ntmps7
    go_wp2_with (first | (go_at_call 8; go_must (refine (alive_any _ hT).mono ?_; rintro e w1 ⟨rfl, hb1⟩)))
    go_ret
    exact ⟨rfl, hb1⟩

theorem walk (ab : Option Addr) (lb cb : Nat) (b : List Nat) (ac : Option Addr) (lc cc : Nat) (ns : List Int) (w : World) (hT : Tab w)
    (h00 : b.length = lb) (h01 : Byt b) (h02 : lb ≤ cb) (h03 : cb ≤ maxLen) (h04 : ab = none → lb = 0 ∧ cb = 0) (h05 : Reads w ab (bV b))
    (h10 : ns.length = lc) (_h11 : In64 ns) (h12 : Reads w ac (iV ns)) :
    Calls Tryd.prog 7 #[.slice ab lb cb, .slice ac lc cc] w fun e w' => e = .returned (.bool true) ∧ Below w.heap.size w w' :=
  walk1 ab lb cb b ac lc cc ns w hT ⟨h00, h01, h02, h03, h04, h05⟩ h10 h12
end crcCuts
end Go.Proofs.YtojpdokkenghbaaDoor
