/- NoteReads' walk. -/
import Derived.Test.YtgkpioleipefmaaRnJ
import Derived.Test.YtgkpioleipefmaaRnK
namespace Go.Proofs.Ytgkpioleipefmaa
namespace noteReads
open Go.RowKit Go.ChangeShapes Go.WideShapes Go.ChangeAt Go.Deep

theorem reads_of6 {w : World} {B n : Nat} {v : Value} {xs : List Nat} (h : w.ownsRow B 5 1 v n (bV xs)) : ∃ a l c, v = .slice a l c ∧ Reads w a (bV xs) := by
  rcases h.2 with ⟨rfl, h0⟩ | ⟨g, cap, cur, rfl, _⟩
  · refine ⟨none, 0, 0, rfl, .inl ?_⟩
    have := h.1
    exact List.eq_nil_of_length_eq_zero (by omega)
  · refine ⟨_, _, cap, rfl, .inr ⟨g, 0, rfl, fun j u hu => ?_⟩⟩
    have := h.cells (g := g) rfl j u hu
    rwa [add_none] at this
/-- gleanerref10.ReadNote. -/
theorem rread_any (a : Option Addr) (l c : Nat) (bs : List Nat) (w : World) (hs : SrcA w a l c bs) : Calls Try.prog 18 #[.slice a l c] w (RNPost bs w) := by
  obtain ⟨⟨k, r0, b0⟩, e0⟩ : ∃ z, rdInt bs false = z := ⟨_, rfl⟩
  by_cases h : isKind k = true
  · rcases kinds h with rfl | rfl | rfl | rfl | rfl | rfl | rfl | rfl | rfl | rfl
    · exact rn_1 a l c bs w hs r0 b0 e0
    · exact rn_2 a l c bs w hs r0 b0 e0
    · exact rn_3 a l c bs w hs r0 b0 e0
    · exact rn_4 a l c bs w hs r0 b0 e0
    · exact rn_5 a l c bs w hs r0 b0 e0
    · exact rn_6 a l c bs w hs r0 b0 e0
    · exact rn_7 a l c bs w hs r0 b0 e0
    · exact rn_8 a l c bs w hs r0 b0 e0
    · exact rn_9 a l c bs w hs r0 b0 e0
    · exact rn_10 a l c bs w hs r0 b0 e0
  · have h' : ¬ (1 ≤ k ∧ k ≤ 10) := by simpa [isKind] using h
    by_cases h1 : 11 ≤ k
    · exact rn_far a l c bs w hs r0 b0 k h1 e0
    · exact rn_low a l c bs w hs r0 b0 k (by omega) e0

/-- What bytes are as a note. -/
def noteB (bs : List Nat) : No := if okC bs = true then (rdC bs).1 else no0
def errB (bs : List Nat) : Int := if okC bs = true then 0 else 4
theorem ok_same {bs : List Nat} (hB : Byt bs) : okR bs = okC bs := by
  by_cases h : okC bs = true
  · rw [h]
    have h1 := (note_read (cap := 20) (by omega) bs).1 ⟨_, okC_note hB h⟩
    unfold okR
    simp [h1.1, h1.2.1, h1.2.2]
  · have h0 : okC bs = false := by simpa using h
    rw [h0]
    cases hr : okR bs with
    | false => rfl
    | true =>
      unfold okR at hr
      simp only [Bool.and_eq_true, Bool.not_eq_true', decide_eq_true_eq] at hr
      obtain ⟨n, hn⟩ := (note_read (cap := 20) (by omega) bs).2 ⟨hr.1, hr.2.1, hr.2.2⟩
      exact absurd (note_okC hn).2 h
def AnsQ (bs : List Nat) (w : World) (e : Ending) (w' : World) : Prop := ∃ s aa al ac ma ml mc, e = .returned (.tuple #[Nv (noteB bs) s (.slice aa al ac) (.slice ma ml mc), .int .i64 (errB bs)]) ∧ Hid (NM w.heap.size w' (noteB bs) s (.slice aa al ac) (.slice ma ml mc)) ∧ Below w.heap.size w w'
theorem BoxL.keepb {w w' : World} {g : Nat} {xs : List Value} (h : BoxL w g xs) (hs : w.heap.size ≤ w'.heap.size) (hb : w'.heap[g]? = w.heap[g]?) : BoxL w' g xs :=
  ⟨Nat.lt_of_lt_of_le h.1 hs, fun j hj => ⟨by rw [World.cell?_of_block (w := w) (a := ⟨g, j, none⟩) hb]; exact (h.2 j hj).1, by rw [World.frozen?_of_block (w := w) (a := ⟨g, j, none⟩) hb]; exact (h.2 j hj).2⟩⟩
theorem readU (bs : List Nat) (a : Option Addr) (l c : Nat) (w : World) (hl : bs.length = l) (hlen : l ≤ 20000) (hB : Byt bs) (hr : Reads w a (bV bs)) : Calls Try.prog 17 #[.slice a l c] w (AnsQ bs w) := by
  refine (read_any a l c bs w hl hlen hB hr).mono ?_
  intro e w' h
  unfold ReadPost at h
  unfold AnsQ noteB errB
  by_cases ho : okC bs = true
  · simp only [ho, if_true] at h ⊢
    obtain ⟨s, av, mv, rfl, hM, hb⟩ := h
    have hM' := hM
    obtain ⟨_, _, _, _, ⟨aa, al, ac, rfl, _⟩, ⟨ma, ml, mc, rfl, _⟩⟩ := hM'
    exact ⟨s, aa, al, ac, ma, ml, mc, rfl, hM, hb⟩
  · simp only [ho] at h ⊢
    obtain ⟨rfl, hb⟩ := h
    exact ⟨⟨#[]⟩, none, 0, 0, none, 0, 0, rfl, NM.zero _ _ _ rfl rfl rfl, hb⟩
theorem rreadU (bs : List Nat) (a : Option Addr) (l c : Nat) (w : World) (hs : SrcA w a l c bs) : Calls Try.prog 18 #[.slice a l c] w (AnsQ bs w) := by
  refine (rread_any a l c bs w hs).mono ?_
  intro e w' h
  unfold RNPost at h
  rw [ok_same hs.byt] at h
  unfold AnsQ noteB errB
  by_cases ho : okC bs = true
  · simp only [ho, if_true] at h ⊢
    have h1 := okC_note hs.byt ho
    have h2 := (note_read (cap := 20) (by omega) bs).1 ⟨_, h1⟩
    have h3 := note_one h1 (note_back h2.2.1 h2.2.2)
    rw [← h3] at h
    obtain ⟨s, av, mv, rfl, hM, hb⟩ := h
    have hM' := hM
    obtain ⟨_, _, _, _, ⟨aa, al, ac, rfl, _⟩, ⟨ma, ml, mc, rfl, _⟩⟩ := hM'
    exact ⟨s, aa, al, ac, ma, ml, mc, rfl, hM, hb⟩
  · simp only [ho] at h ⊢
    obtain ⟨rfl, hb⟩ := h
    exact ⟨⟨#[]⟩, none, 0, 0, none, 0, 0, rfl, NM.zero _ _ _ rfl rfl rfl, hb⟩

set_option maxRecDepth 100000 in
set_option maxHeartbeats 1000000 in
theorem skip (a : Option Addr) (l c : Nat) (w : World) (h : 3000 < l) : Calls Try.prog 4 #[.slice a l c] w fun e w' => e = .returned (.bool true) ∧ Below w.heap.size w w' := by
  have h' : (3000 : Int) < (l : Int) := by omega
  clear h
  go_enter Try.func4, Try.ntmps4
  go_wp2_with (go_at_call 9; go_must ((with_reducible refine (alive_any w).mono ?_); rintro e w1 ⟨rfl, hb1⟩))
  go_ret
  exact ⟨rfl, hb1⟩

set_option maxRecDepth 100000 in
set_option maxHeartbeats 16000000 in
theorem main (a : Option Addr) (l c : Nat) (bs : List Nat) (w : World) (hl : bs.length = l) (hB : Byt bs) (hc : l ≤ c) (hm : c ≤ maxLen) (hnil : a = none → l = 0 ∧ c = 0) (hr : Reads w a (bV bs)) (h3 : l ≤ 3000) : Calls Try.prog 4 #[.slice a l c] w fun e w' => e = .returned (.bool true) ∧ Below w.heap.size w w' := by
  have h3' : (l : Int) ≤ 3000 := by omega
  have HSA := hide (show SrcA w a l c bs from ⟨hl, hB, hc, by omega, hnil, hm, hr⟩)
  have C17 := hide (fun W a4 c4 (h : Reads W a4 (bV bs)) => readU bs a4 l c4 W hl (by omega) hB h)
  have C18 := hide (fun W (hb : Below w.heap.size w W) => rreadU bs a l c W ⟨hl, hB, hc, by omega, hnil, hm, hr.below hb⟩)
  unfold AnsQ at C17 C18
  simp only [Nv] at C17 C18
  generalize noteB bs = n at C17 C18
  generalize errB bs = f at C17 C18
  have CS := hide (fun W s s' av mv av' mv' B B' (h : NM B W n s av mv) (h' : NM B' W n s' av' mv') => (show Calls Try.prog 14 #[Nv n s av mv, Nv n s' av' mv'] W fun e w' => e = .returned (.bool true) ∧ Below W.heap.size W w' from by
    refine (sameNote_any n n s s' av mv av' mv' B B' W h h').mono ?_
    rintro e w' ⟨R, rfl, hR, hb⟩
    rw [hR.2 rfl]
    exact ⟨rfl, hb⟩))
  simp only [Nv] at CS
  have HL := hide hl
  have HBy := hide hB
  have HR := hide hr
  have HN := hide hnil
  clear hl hB hc hm hnil hr
  go_enter Try.func4, Try.ntmps4
  go_wp2_with (first
    | (go_at_call 9; go_must ((with_reducible refine (alive_any w).mono ?_); rintro e w1 ⟨rfl, hb1⟩; have HB1 := hide hb1; clear hb1))
    | (at_builtin; go_must (refine append_bytes rfl (.const (.slice none 0 0)) (.tmp 19) rfl w1.heap.size (.slice none 0 0) 0 [] rfl (World.ownsRow_nil _ _ _ _) a l c bs rfl HN.out HL.out (HR.out.below HB1.out) (by omega) (Nat.le_refl _) ?_; intro v2 w2 ho2 hg2 _; rw [Nat.zero_add, List.nil_append] at ho2; have hb2 := below_of hg2; have HO2 := hide ho2; obtain ⟨a2, c2, rfl, -⟩ := own_slice ho2; obtain ⟨a2', l2', c2', e2, hr2⟩ := reads_of6 ho2; simp only [Value.slice.injEq] at e2; obtain ⟨rfl, rfl, rfl⟩ := e2; have HR2 := hide hr2; have HB2 := hide (HB1.out.trans (hb2.mono HB1.out.size)); have HLT := hide ho2.lt; clear ho2 hg2 hb2 hr2))
    | (go_at_call 17; go_must ((with_reducible refine (C17.out w2 a2 c2 HR2.out).mono ?_); rintro e w3 ⟨s3, aa3, al3, ac3, ma3, ml3, mc3, rfl, hM3, hb3⟩; have HM3 := hide hM3.out; have HB3 := hide hb3; clear hM3 hb3)))
  have hx4 := below_new w3 (.cells #[.int .i64 n.kind, .int .i64 n.node, .int .i64 n.life, .int .i64 n.epoch, .string s3, .int .i64 n.func, .slice aa3 al3 ac3, .int .i64 n.err, .int .i64 n.val, .int .i64 n.vep, .slice ma3 ml3 mc3] 31)
  have HX4 := hide (BoxL.new w3 [.int .i64 n.kind, .int .i64 n.node, .int .i64 n.life, .int .i64 n.epoch, .string s3, .int .i64 n.func, .slice aa3 al3 ac3, .int .i64 n.err, .int .i64 n.val, .int .i64 n.vep, .slice ma3 ml3 mc3] 31)
  have HM4 := hide (HM3.out.below hx4)
  have HB4 := hide (HB3.out.trans (hx4.mono HB3.out.size))
  have HO4 := hide (own_below (own_below HO2.out HB3.out) hx4)
  generalize w3.alloc (.cells #[.int .i64 n.kind, .int .i64 n.node, .int .i64 n.life, .int .i64 n.epoch, .string s3, .int .i64 n.func, .slice aa3 al3 ac3, .int .i64 n.err, .int .i64 n.val, .int .i64 n.vep, .slice ma3 ml3 mc3] 31) = w4 at hx4 HX4 HM4 HB4 HO4 ⊢
  have HS4 := hide hx4.size
  clear hx4
  go_loopw [7] (fun i wr => Hid (w4.grownBy wr (Value.slice a2 l c2).ownBlock) ∧ ∃ (k : Nat) (ys : List Nat), k ≤ l ∧ i = .int .i64 (k : Nat) ∧ Hid (Byt ys) ∧ Hid (wr.ownsRow w1.heap.size 5 1 (.slice a2 l c2) l (bV ys))) (fun i _ => l - (intOf i).toNat)
  case atStart => exact ⟨hide (grown_refl _ _), 0, bs, Nat.zero_le _, rfl, HBy, HO4⟩
  case round =>
    obtain ⟨HG, k, ys, hk, rfl, HYB, HO⟩ := hrel
    by_cases hlt : k < l
    · obtain ⟨a2', c2', e2, _, hq⟩ := own_form HO.out
      simp only [Value.slice.injEq] at e2
      obtain ⟨rfl, _, rfl⟩ := e2
      obtain ⟨g, rfl, _, _⟩ := hq (by omega)
      obtain ⟨x, hx, hcell, hfz⟩ := own_at HO.out HYB.out hlt
      obtain ⟨y, hy, hxor⟩ := xor255 x hx
      obtain ⟨ys', hyb', ho', hg'⟩ := own_turn HO.out HYB.out hlt y hy
      have HO' := hide ho'
      have HG' := hide (grown_trans HG.out hg')
      have HYB' := hide hyb'
      clear ho' hg' hyb' hq
      go_wp2
      go_roundw
      case rel => exact ⟨HG', k + 1, ys', by omega, by go_num, HYB', HO'⟩
      case measure => simp [intOf]; omega
    · have hlo : ∀ q, (Value.slice a2 l c2).ownBlock = some q → w1.heap.size ≤ q ∧ q < w2.heap.size := fun q hq => HLT.out q hq
      have HMr := hide (HM4.out.keep (w' := wr) (fun q h1 h2 => HG.out.block q h2 (fun e => by have := (hlo q e.symm).2; omega)))
      have hs3 := HB3.out.size
      have HXr := hide (BoxL.keepb HX4.out HG.out.size (HG.out.block _ HX4.out.1 (fun e => by have := (hlo _ e.symm).2; omega)))
      have HBr := hide (((HB2.out.trans (HB4.out.mono HB2.out.size)).grown HG.out (Nat.le_trans HB2.out.size HB4.out.size) (fun q hq => by have := (hlo q hq).1; have := HB1.out.size; omega)))
      clear hlo hs3 HX4 HM4 HO4
      go_wp2_with (first
        | (go_at_call 18; go_must ((with_reducible refine (C18.out wr HBr.out).mono ?_); rintro e w6 ⟨s6, aa6, al6, ac6, ma6, ml6, mc6, rfl, hM6, hb6⟩; have hx7 := below_new w6 (.cells #[.int .i64 n.kind, .int .i64 n.node, .int .i64 n.life, .int .i64 n.epoch, .string s6, .int .i64 n.func, .slice aa6 al6 ac6, .int .i64 n.err, .int .i64 n.val, .int .i64 n.vep, .slice ma6 ml6 mc6] 31); have HX7 := hide ((HXr.out.below hb6).below hx7); have HY7 := hide (BoxL.new w6 [.int .i64 n.kind, .int .i64 n.node, .int .i64 n.life, .int .i64 n.epoch, .string s6, .int .i64 n.func, .slice aa6 al6 ac6, .int .i64 n.err, .int .i64 n.val, .int .i64 n.vep, .slice ma6 ml6 mc6] 31); have HM7 := hide ((HMr.out.below hb6).below hx7); have HM7b := hide (hM6.out.below hx7); have HB7 := hide ((HBr.out.trans (hb6.mono HBr.out.size)).alloc (by have h1 := HBr.out.size; have h2 := hb6.size; omega) (.cells #[.int .i64 n.kind, .int .i64 n.node, .int .i64 n.life, .int .i64 n.epoch, .string s6, .int .i64 n.func, .slice aa6 al6 ac6, .int .i64 n.err, .int .i64 n.val, .int .i64 n.vep, .slice ma6 ml6 mc6] 31)); obtain ⟨k0, k1, k2, k3, k4, k5, k6, k7, k8, k9, k10⟩ := HX7.out.c11; obtain ⟨g0, g1, g2, g3, g4, g5, g6, g7, g8, g9, g10⟩ := HY7.out.c11; clear hM6 hb6 hx7))
        | (go_at_call 13; go_must ((with_reducible refine (lnum_any _ _).mono ?_); rintro e wz ⟨rfl, rfl⟩))
        | (go_at_call 14; go_must ((with_reducible refine (CS.out _ _ _ _ _ _ _ _ _ HM7.out HM7b.out).mono ?_); rintro e w8 ⟨rfl, hb8⟩; have HB8 := hide (HB7.out.trans (hb8.mono HB7.out.size)); clear hb8)))
      go_ret
      exact ⟨rfl, HB8.out⟩

theorem walk (a : Option Addr) (l c : Nat) (bs : List Nat) (w : World) (hl : bs.length = l) (hB : Byt bs) (hc : l ≤ c) (hm : c ≤ maxLen) (hnil : a = none → l = 0 ∧ c = 0) (hr : Reads w a (bV bs)) : Calls Try.prog 4 #[.slice a l c] w fun e w' => e = .returned (.bool true) ∧ Below w.heap.size w w' := by
  by_cases h : 3000 < l
  · exact skip a l c w h
  · exact main a l c bs w hl hB hc hm hnil hr (by omega)
end noteReads
end Go.Proofs.Ytgkpioleipefmaa
