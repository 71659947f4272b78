/- What the writers of notes come to. -/
import Derived.Test.YtgkpioleipefmaaNoY
import Derived.Lib.ConvBytes
namespace Go.Proofs.Ytgkpioleipefmaa
open Go.RowKit Go.ChangeShapes Go.WideShapes Go.ChangeAt Go.Deep

/-- '[]byte(s)'. -/
theorem str_row (W : World) (s : ByteArray) (hs : s.size ≤ 20000) : ∃ X cp, (convert 22 34 (.string s)).run Try.prog W = .ok (.slice (some ⟨W.heap.size, 0, none⟩) s.size cp) X ∧ Below W.heap.size W X ∧ X.heap.size = W.heap.size + 1 ∧ Txt.ok X ⟨some ⟨W.heap.size, 0, none⟩, s.size, cp, uN s.data.toList⟩ := by
  have hn : (uN s.data.toList).length = s.size := by simp [uN]
  refine ⟨Lib.bytesWorld W 5 s, grownCap W s.size 0 5, Lib.run_convert_string_bytes (P := Try.prog) W 22 34 5 s Try.underlying22 Try.underlying34 Try.underlying5, ⟨?_, ?_, ?_, ?_, fun k hk => Lib.bytesWorld_at_old W 5 s k hk⟩, Lib.bytesWorld_size W 5 s, hn, ?_, ⟨grownCap_ge _ _ _ _, grownCap_le_maxLen _ _ _ _ (by unfold maxLen; omega)⟩, (fun h => by cases h), .inr ⟨_, _, rfl, fun j u hu => ?_⟩⟩
  · simp [Lib.bytesWorld, World.freeze]; rfl
  · simp [Lib.bytesWorld, World.freeze]
  · simp [Lib.bytesWorld, World.freeze]; rfl
  · rw [Lib.bytesWorld_size]; omega
  · intro x hx
    simp only [uN, List.mem_map] at hx
    obtain ⟨y, _, rfl⟩ := hx
    exact UInt8.toNat_lt y
  · have hj : j < s.size := by
      rcases Nat.lt_or_ge j s.size with h | h
      · exact h
      · rw [List.getElem?_eq_none (by rw [bV_length, hn]; exact h)] at hu; cases hu
    rw [show (0 : Nat) + j = j by omega, Lib.bytesWorld_cell W 5 s j hj]
    simp only [bV, uN, List.map_map, List.getElem?_map, Option.map_eq_some_iff] at hu
    obtain ⟨y, hy, rfl⟩ := hu
    simp [List.getD, hy]

/-- What a writer leaves: these bytes. -/
def WP (Z : List Nat) (W : World) (e : Ending) (w' : World) : Prop := ∃ v, e = .returned v ∧ RowV W.heap.size w' v Z.length (bV Z) ∧ Below W.heap.size W w'

theorem pin (Z : List Nat) (ns : List Int) (a : Option Addr) (m c : Nat) (na : Option Addr) (nl nc : Nat) (W : World) (hm : Z.length = m) (h9 : m ≤ 1000000000) (hr : Reads W a (bV Z)) (hnl : ns.length = nl) (hn : nl ≤ 1000000) (hin : In64 ns) (hrn : Reads W na (iV ns)) :
    Calls Try.prog 22 #[.slice a m c, .slice na nl nc] W (WP (Z ++ encs ns) W) := by
  refine (int_any a m c Z W hm hr h9 na nl nc ns hnl (by omega) hin hrn).mono ?_
  rintro e w' ⟨v, rfl, _, ho, hb⟩
  exact ⟨v, rfl, owng_row ho, hb⟩
theorem WP.low {Z : List Nat} {W X : World} {e : Ending} {w' : World} (h : WP Z X e w') (hb : Below W.heap.size W X) : WP Z W e w' := by
  obtain ⟨v, h1, h2, h3⟩ := h
  exact ⟨v, h1, h2.mono hb.size, hb.trans (h3.mono hb.size)⟩
theorem pi1 (Z : List Nat) (x : Int) (hx : In1 x) (a : Option Addr) (m c : Nat) (W : World) (hm : Z.length = m) (h9 : m ≤ 1000000000) (hr : Reads W a (bV Z)) (g : Nat) (hg : g = W.heap.size) :
    Calls Try.prog 22 #[.slice a m c, .slice (some ⟨g, 0, none⟩) 1 1] (W.alloc (.cells #[.int .i64 x] 3)) (WP (Z ++ encI x) W) := by
  subst hg
  have hb := below_new W (.cells #[.int .i64 x] 3)
  refine (pin Z [x] a m c (some ⟨W.heap.size, 0, none⟩) 1 1 (W.alloc (.cells #[.int .i64 x] 3)) hm h9 (hr.below hb) rfl (by omega) (by intro n hn; simp at hn; subst hn; exact hx) (reads_new W (iV [x]) 3)).mono ?_
  intro e w' h
  have e1 : encs [x] = encI x := by simp [encs, encI]
  rw [e1] at h
  exact h.low hb
theorem pi2 (Z : List Nat) (x y : Int) (hx : In1 x) (hy : In1 y) (a : Option Addr) (m c : Nat) (W : World) (hm : Z.length = m) (h9 : m ≤ 1000000000) (hr : Reads W a (bV Z)) (g : Nat) (hg : g = W.heap.size) :
    Calls Try.prog 22 #[.slice a m c, .slice (some ⟨g, 0, none⟩) 2 2] (W.alloc (.cells #[.int .i64 x, .int .i64 y] 3)) (WP (Z ++ (encI x ++ encI y)) W) := by
  subst hg
  have hb := below_new W (.cells #[.int .i64 x, .int .i64 y] 3)
  refine (pin Z [x, y] a m c (some ⟨W.heap.size, 0, none⟩) 2 2 (W.alloc (.cells #[.int .i64 x, .int .i64 y] 3)) hm h9 (hr.below hb) rfl (by omega) (by intro n hn; simp at hn; rcases hn with rfl | rfl; exact hx; exact hy) (reads_new W (iV [x, y]) 3)).mono ?_
  intro e w' h
  have e1 : encs [x, y] = encI x ++ encI y := by simp [encs, encI]
  rw [e1] at h
  exact h.low hb
theorem pb1 (Z ld : List Nat) (a : Option Addr) (m c : Nat) (b : Option Addr) (l k : Nat) (W : World) (hm : Z.length = m) (h9 : m ≤ 1000000000) (hr : Reads W a (bV Z)) (hok : Txt.ok W ⟨b, l, k, ld⟩) (hl : l ≤ 1000000) (g : Nat) (hg : g = W.heap.size) :
    Calls Try.prog 38 #[.slice a m c, .slice (some ⟨g, 0, none⟩) 1 1] (W.alloc (.cells #[.slice b l k] 34)) (WP (Z ++ encT ld) W) := by
  subst hg
  have hb := below_new W (.cells #[.slice b l k] 34)
  have e1 : encTs [⟨b, l, k, ld⟩] = encT ld := by simp [encTs]
  have hl' : ld.length = l := hok.1
  have h10 := enc_len (foldN (ld.length : Int))
  refine (bytes_any a m c Z _ hm (hr.below hb) (some ⟨W.heap.size, 0, none⟩) 1 1 [⟨b, l, k, ld⟩] rfl (by intro y hy; simp at hy; subst hy; exact hok.below hb) (reads_new W (sV [⟨b, l, k, ld⟩]) 34) (by rw [e1]; simp only [encT, List.length_append]; omega) (by omega)).mono ?_
  rintro e w' ⟨v, rfl, _, ho, hb2⟩
  rw [e1] at ho
  exact WP.low (X := W.alloc (.cells #[.slice b l k] 34)) ⟨v, rfl, owng_row ho, hb2⟩ hb

theorem encM_snoc (l : List (Int × Int)) (k : Nat) (h : k < l.length) : encM (l.take (k + 1)) = encM (l.take k) ++ (encI l[k].1 ++ encI l[k].2) := by
  rw [List.take_succ_eq_append_getElem h]; simp only [encM, List.flatMap_append, List.flatMap_cons, List.flatMap_nil, List.append_nil]

set_option maxRecDepth 100000 in
set_option maxHeartbeats 2000000 in
/-- note.writtenMembers. -/
theorem wm_any (Z : List Nat) (mem : List (Int × Int)) (a : Option Addr) (m c : Nat) (ma : Option Addr) (ml mc : Nat) (w : World) (hm : Z.length = m) (h9 : m ≤ 10000000) (hr : Reads w a (bV Z)) (hml : mem.length = ml) (hmn : ml ≤ 20000) (hin : ∀ x ∈ mem, In1 x.1 ∧ In1 x.2) (hrm : Reads w ma (mV mem)) :
    Calls Try.prog 39 #[.slice a m c, .slice ma ml mc] w (WP (Z ++ (encI ml ++ encM mem)) w) := by
  have CI := hide (pi1 Z (ml : Int) (by unfold In1; omega) a m c w hm (by omega) hr w.heap.size rfl)
  obtain ⟨Y, hY⟩ : ∃ Y, Y = Z ++ encI ml := ⟨_, rfl⟩
  have HG := hide (show Z ++ (encI ml ++ encM mem) = Y ++ encM mem by rw [hY]; simp)
  generalize Z ++ (encI ml ++ encM mem) = G at HG ⊢
  rw [← hY] at CI
  have HYl := hide (show Y.length ≤ 10000010 by have := (encI_len (ml : Int)).2; rw [hY]; simp only [List.length_append]; omega)
  clear hY
  have hZl : ∀ k, (Y ++ encM (mem.take k)).length ≤ 10000010 + 400000 := fun k => by
    have h1 := encM_len (mem.take k)
    have h2 : (mem.take k).length ≤ ml := by simp; omega
    have := HYl.out
    simp only [List.length_append]; omega
  have HZl := hide hZl
  clear hZl
  go_enter Try.func39, Try.ntmps39
  go_wp2_with (go_at_call 22; go_must ((with_reducible refine CI.out.mono ?_); rintro e w1 ⟨v1, rfl, hrow1, hb1⟩))
  go_loopw [0, 14] (fun v i wr => Hid (Below w.heap.size w wr) ∧ ∃ (k : Nat), k ≤ ml ∧ i = .int .i64 (k : Nat) ∧ Hid (RowV w.heap.size wr v (Y ++ encM (mem.take k)).length (bV (Y ++ encM (mem.take k))))) (fun _ i _ => ml - (intOf i).toNat)
  case atStart => exact ⟨hide hb1, 0, Nat.zero_le _, rfl, hide (by simpa [encM] using hrow1)⟩
  case round =>
    obtain ⟨hbw, k, hk, rfl, hrow⟩ := hrel
    by_cases hlt : k < ml
    · have hkc : k < mem.length := by omega
      obtain ⟨cb, off, har, y0, y1⟩ := mem_at (hrm.below hbw.out) hkc
      subst har
      have hx := hin mem[k] (List.getElem_mem _)
      have HS := hide (encM_snoc mem k hkc)
      generalize mem[k] = x at y0 y1 HS hx
      obtain ⟨mn, mf⟩ := x
      simp only at y0 y1 hx HS
      have hrow' := hrow.out
      obtain ⟨a2, m2, c2, rfl, hm2, -, -, hr2, -⟩ := hrow'
      have hz := HZl.out k
      have HN := hide (show Y ++ encM (mem.take (k + 1)) = (Y ++ encM (mem.take k)) ++ (encI mn ++ encI mf) by rw [HS.out]; simp)
      generalize Y ++ encM (mem.take k) = Zk at hrow hm2 hr2 hz HN
      have hm2' : Zk.length = m2 := hm2.out
      have h9k : m2 ≤ 1000000000 := by omega
      have HM2 := hide hm2'
      have hyl := cell_some_lt y0
      have hsz := hbw.out.size
      obtain ⟨V2, hV2⟩ : ∃ V2, V2 = wr.alloc (.cells #[.int .i64 mn, .int .i64 mf] 50) := ⟨_, rfl⟩
      have hb2 : Below wr.heap.size wr V2 := by rw [hV2]; exact below_new _ _
      have HSV := hide (show V2.heap.size = wr.heap.size + 1 by rw [hV2]; simp)
      have HR2 := hide (hr2.below hb2)
      have HB2 := hide (hbw.out.trans (hb2.mono hbw.out.size))
      have HV2 := hide hV2
      have hlt' : (k : Int) < (ml : Int) := by omega
      clear hV2 hb2 hr2 hm2 hz hrow hm2' HS
      have C2 := hide (pi2 Zk mn mf hx.1 hx.2 a2 m2 c2 V2 HM2.out h9k HR2.out)
      go_wp2_with (go_at_call 22; go_must (rw [← HV2.out]; (with_reducible refine (C2.out _ (by first | rfl | rw [HSV.out])).mono ?_); rintro e w2 ⟨v2, rfl, hrow2, hb2⟩))
      go_roundw
      case rel => exact ⟨hide (HB2.out.trans (hb2.mono HB2.out.size)), k + 1, by omega, by go_num, by rw [HN.out]; exact hide (hrow2.mono HB2.out.size)⟩
      case measure => simp [intOf]; omega
    · have HT := hide (show mem.take k = mem from List.take_of_length_le (by omega))
      rw [HT.out] at hrow
      go_wp2
      go_ret
      refine ⟨_, rfl, ?_, hbw.out⟩
      rw [HG.out]
      exact hrow.out
end Go.Proofs.Ytgkpioleipefmaa
