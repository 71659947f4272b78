/- Pack, by code and by document, as slices; the document's example. -/
import Derived.Test.YtpieagcijfkpnaaDoorFrT
import Derived.Test.YtpieagcijfkpnaaDoorFrG
namespace Go.Proofs.YtpieagcijfkpnaaDoor
open Go.RowKit Go.ChangeShapes Go.WideShapes Go.ChangeAt Go.Deep

theorem own_cap {w : World} {B n q c : Nat} {xs : List Value} (h : w.ownsRow B 5 1 (.slice (some ⟨q, 0, none⟩) n c) n xs) : n ≤ c ∧ c ≤ maxLen ∧ B ≤ q ∧ q < w.heap.size := by
  have hlt := h.lt q rfl
  rcases h.2 with ⟨h0, _⟩ | ⟨g, cap, cur, e, _, _, h3, h4, _⟩
  · simp at h0
  · simp only [Value.slice.injEq] at e
    obtain ⟨_, _, rfl⟩ := e
    exact ⟨h3, h4, hlt.1, hlt.2⟩

/-- A row of bytes of one's own, as a slice. -/
def OwnB (w : World) (B q m c : Nat) (xs : List Nat) : Prop := w.ownsRow B 5 1 (.slice (some ⟨q, 0, none⟩) m c) m (bV xs)

theorem OwnB.below {w w' : World} {B q m c : Nat} {xs : List Nat} (h : OwnB w B q m c xs) (hb : Below w.heap.size w w') : OwnB w' B q m c xs := own_below h hb
theorem OwnB.reads {w : World} {B q m c : Nat} {xs : List Nat} (h : OwnB w B q m c xs) : Reads w (some ⟨q, 0, none⟩) (bV xs) := own_reads h
theorem OwnB.len {w : World} {B q m c : Nat} {xs : List Nat} (h : OwnB w B q m c xs) : xs.length = m := by
  have h' : w.ownsRow B 5 1 (.slice (some ⟨q, 0, none⟩) m c) m (bV xs) := h
  have := h'.1
  rw [bV_length] at this
  omega
theorem OwnB.cap {w : World} {B q m c : Nat} {xs : List Nat} (h : OwnB w B q m c xs) : m ≤ c ∧ c ≤ maxLen ∧ B ≤ q ∧ q < w.heap.size := own_cap h

theorem ownB_of {w : World} {B n : Nat} {v : Value} {xs : List Nat} (h : w.ownsRow B 5 1 v n (bV xs)) (hv : v ≠ .slice none 0 0) : ∃ q m c, v = .slice (some ⟨q, 0, none⟩) m c ∧ OwnB w B q m c xs := by
  have h' := h
  obtain ⟨q, c, m, rfl, _, hm, _, _, _⟩ := reads_own' h hv
  rw [hm.out] at h'
  exact ⟨q, m, c, rfl, h'⟩

theorem packQ (f : Fr) (a : Option Addr) (l c : Nat) (w : World) (hok : Txt.ok w ⟨a, l, c, f.load⟩) (hw : wrongL f = 0) (hT : Tab w) :
    Calls Tryd.prog 9 #[f.val a l c] w fun e w' => ∃ q m cp, e = .returned (.tuple #[.slice (some ⟨q, 0, none⟩) m cp, .int .i64 0]) ∧ OwnB w' w.heap.size q m cp (sealL (bodyL f)) ∧ Below w.heap.size w w' := by
  refine (pack_yes f a l c w hok hw hT).mono ?_
  rintro e w' ⟨v, rfl, hv, ho, hb⟩
  obtain ⟨q, m, cp, rfl, h⟩ := ownB_of ho hv
  exact ⟨q, m, cp, rfl, h, hb⟩

theorem rpackQ (f : Fr) (a : Option Addr) (l c : Nat) (w : World) (hok : Txt.ok w ⟨a, l, c, f.load⟩) (hw : wrongL f = 0) :
    Calls Tryd.prog 10 #[f.val a l c] w fun e w' => ∃ q m cp, e = .returned (.tuple #[.slice (some ⟨q, 0, none⟩) m cp, .int .i64 0]) ∧ OwnB w' w.heap.size q m cp (sealL (bodyL f)) ∧ Below w.heap.size w w' := by
  refine (rpack_yes f a l c w hok hw).mono ?_
  rintro e w' ⟨v, rfl, hv, ho, hb⟩
  obtain ⟨q, m, cp, rfl, h⟩ := ownB_of ho hv
  exact ⟨q, m, cp, rfl, h, hb⟩

/-- Read of a row of one's own. -/
theorem readQ {w : World} {B q m c : Nat} {xs : List Nat} (h : OwnB w B q m c xs) (hB : Byt xs) (hm : m ≤ 1000000) (hT : Tab w) : Calls Tryd.prog 12 #[.slice (some ⟨q, 0, none⟩) m c] w (ReadPost xs w) :=
  read_any _ m c xs w h.len hm h.cap.1 h.cap.2.1 hB h.reads hT

theorem fr0_seal : (sealL (bodyL fr0)).length = 11 ∧ wrongL fr0 = 0 := by decide +kernel

set_option maxRecDepth 100000 in
set_option maxHeartbeats 1000000 in
theorem alive_any (w : World) (hT : Tab w) : Calls Tryd.prog 8 #[] w fun e w' => e = .returned (.bool true) ∧ Below w.heap.size w w' := by
  have CP := hide (packQ fr0 none 0 0 w ⟨rfl, (fun x hx => by cases hx), ⟨Nat.le_refl _, Nat.zero_le _⟩, (fun _ => ⟨rfl, rfl⟩), .inl rfl⟩ fr0_seal.2 hT)
  have HB := hide (seal_byt (body_byt fr0_seal.2 (fun x hx => by cases hx)))
  have HR := hide (read_pack fr0_seal.2)
  have h11 := fr0_seal.1
  generalize sealL (bodyL fr0) = Z at CP HB HR h11
  simp only [Fr.val, fr0] at CP
  have HL := hide h11
  clear h11
  go_enter Tryd.func8, Tryd.ntmps8
  go_wp2_with (first
    | (go_at_call 9; go_must ((with_reducible refine CP.out.mono ?_); rintro e w1 ⟨q1, m1, c1, rfl, ho1, hb1⟩; have hm1 : m1 = 11 := ho1.len.symm.trans HL.out; subst hm1; have HT1 := hide (hT.below hb1)))
    | (go_at_call 12; go_must ((with_reducible refine (readQ ho1 HB.out (by omega) HT1.out).mono ?_); rintro e w2 ⟨a2, l2, c2, rfl, hl2, hr2, hb2⟩; rw [HR.out] at hl2 hr2 ⊢; simp only [Fr.val, fr0]; have HB2 := hide (hb1.trans (hb2.mono hb1.size)); have HR2 := hide hr2; have HL2 := hide hl2; clear hl2 hr2))
    | (go_at_call 11; go_must ((with_reducible refine (lnum_any _ _).mono ?_); rintro e w3 ⟨rfl, rfl⟩))
    | (go_at_call 13; go_must (refine (same_yes fr0 a2 none l2 c2 0 0 _ HL2.out rfl (HR2.out.below ((Below.refl _ _).alloc (Nat.le_refl _) _)) (.inl rfl)).mono ?_; rintro e w4 ⟨rfl, hb4⟩)))
  go_ret
  exact ⟨rfl, (HB2.out.alloc HB2.out.size _).trans (hb4.mono (by simp; exact Nat.le_succ_of_le HB2.out.size))⟩
end Go.Proofs.YtpieagcijfkpnaaDoor
