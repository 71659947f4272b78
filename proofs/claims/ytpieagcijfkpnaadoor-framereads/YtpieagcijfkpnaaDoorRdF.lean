/- gleanerref10.ReadFrame. -/
import Derived.Test.YtpieagcijfkpnaaDoorRefD
import Derived.Test.YtpieagcijfkpnaaDoorFrU
namespace Go.Proofs.YtpieagcijfkpnaaDoor
open Go.RowKit Go.ChangeShapes Go.WideShapes Go.ChangeAt Go.Deep

set_option maxRecDepth 100000 in
set_option maxHeartbeats 400000 in
theorem rread_lt (a : Option Addr) (len cap : Nat) (bs : List Nat) (w : World) (hl : bs.length = len) (h5 : len < 5) :
    Calls Tryd.prog 14 #[.slice a len cap] w (ReadPost bs w) := by
  have HR := hide (show readL bs = (fr0, 4) by unfold readL; rw [if_pos (.inl (by omega))])
  have HB0 := hide ((Below.refl w.heap.size w).alloc (Nat.le_refl _) (.cells [.int .i64 0, .int .i64 0, .int .i64 0, .int .i64 0, .int .i64 0, .slice none 0 0].toArray 24))
  go_enter Tryd.func14, Tryd.ntmps14
  go_wp2
  exact bodyPost_ret (v := .tuple #[.agg #[.int .i64 0, .int .i64 0, .int .i64 0, .int .i64 0, .int .i64 0, .slice none 0 0], .int .i64 (4 : Nat)]) (by simp [results, Tryd.results14, go_sem]) rfl (read_no HR.out HB0.out)

set_option maxRecDepth 100000 in
set_option maxHeartbeats 400000 in
theorem rread_mark (a : Option Addr) (len cap : Nat) (bs : List Nat) (w : World) (hl : bs.length = len) (h5 : 5 ≤ len) (hlen : len ≤ 1000000) (hr : Reads w a (bV bs)) (hm : bs.head? ≠ some 70) :
    Calls Tryd.prog 14 #[.slice a len cap] w (ReadPost bs w) := by
  have HR := hide (show readL bs = (fr0, 4) by unfold readL; rw [if_pos (.inr hm)])
  have HB0 := hide ((Below.refl w.heap.size w).alloc (Nat.le_refl _) (.cells [.int .i64 0, .int .i64 0, .int .i64 0, .int .i64 0, .int .i64 0, .slice none 0 0].toArray 24))
  have h0 : 0 < bs.length := by omega
  obtain ⟨b, off, har, hcell⟩ := reads_byte hr h0
  subst har
  have hx : bs[0] ≠ 70 := fun e => hm (by cases bs with | nil => simp at h0 | cons y l => simp at e; simp [e])
  obtain ⟨x, hxe⟩ : ∃ x, x = bs[0] := ⟨_, rfl⟩
  rw [← hxe] at hcell hx
  have hx' : ((x : Int) == 70) = false := by rw [beq_eq_false_iff_ne]; omega
  have hx2 : ((x : Int) != 70) = true := by simp [bne, hx']
  have hc1 := keep_cell hcell (HB0.out)
  have hc2 : (w.alloc (.cells #[.int .i64 0, .int .i64 0, .int .i64 0, .int .i64 0, .int .i64 0, .slice none 0 0] 24)).cell? ⟨b, off, none⟩ = some (.int .u8 (x : Nat)) := by simpa using hc1
  clear hxe hcell hc1 hr
  go_enter Tryd.func14, Tryd.ntmps14
  go_wp2
  exact bodyPost_ret (v := .tuple #[.agg #[.int .i64 0, .int .i64 0, .int .i64 0, .int .i64 0, .int .i64 0, .slice none 0 0], .int .i64 (4 : Nat)]) (by simp [results, Tryd.results14, go_sem]) rfl (read_no HR.out HB0.out)

theorem seal_iff (bs : List Nat) : sealL (bs.take (bs.length - 4)) = bs ↔ bs.drop (bs.length - 4) = tail4 (crcSum (bs.take (bs.length - 4))) := by
  constructor
  · intro e
    have := congrArg (List.drop (bs.length - 4)) e
    rw [sealL, List.drop_append_of_le_length (by simp), List.drop_of_length_le (by simp)] at this
    simpa using this.symm
  · intro e
    rw [sealL, ← e, List.take_append_drop]

theorem RC.put {w : World} {r : Nat} {a : Option Addr} {l c p : Nat} {bad : Bool} (h : RC w r a l c p bad) (g o : Nat) (v : Value) (hg : r ≠ g) : RC (w.setCell ⟨g, o, none⟩ v) r a l c p bad := by
  obtain ⟨h0, h1, h2, f0, f1, f2⟩ := h
  have hb : (w.setCell ⟨g, o, none⟩ v).heap[r]? = w.heap[r]? := Below.heap_setCell _ _ _ _ hg
  refine ⟨?_, ?_, ?_, ?_, ?_, ?_⟩
  · rw [World.cell?_of_block (w := w) (a := ⟨r, 0, none⟩) hb]; exact h0
  · rw [World.cell?_of_block (w := w) (a := ⟨r, 1, none⟩) hb]; exact h1
  · rw [World.cell?_of_block (w := w) (a := ⟨r, 2, none⟩) hb]; exact h2
  · rw [World.frozen?_of_block (w := w) (a := ⟨r, 0, none⟩) hb]; exact f0
  · rw [World.frozen?_of_block (w := w) (a := ⟨r, 1, none⟩) hb]; exact f1
  · rw [World.frozen?_of_block (w := w) (a := ⟨r, 2, none⟩) hb]; exact f2

theorem RCur.put {w : World} {r : Nat} {a : Option Addr} {l c : Nat} {bs rest : List Nat} {bad : Bool} (h : RCur w r a l c bs rest bad) (g o : Nat) (v : Value) (hg : r ≠ g) : RCur (w.setCell ⟨g, o, none⟩ v) r a l c bs rest bad := by
  obtain ⟨p, hp, hR, e⟩ := h
  exact ⟨p, hp, hR.put g o v hg, e⟩

theorem RCur.bad {w : World} {r : Nat} {a : Option Addr} {l c : Nat} {bs rest : List Nat} {bad : Bool} (h : RCur w r a l c bs rest bad) : w.cell? ⟨r, 2, none⟩ = some (.bool bad) := by
  obtain ⟨p, hp, ⟨_, _, h2, _⟩, _⟩ := h
  exact h2

theorem RCur.below {w w' : World} {r : Nat} {a : Option Addr} {l c : Nat} {bs rest : List Nat} {bad : Bool} (h : RCur w r a l c bs rest bad) (hb : Below w.heap.size w w') : RCur w' r a l c bs rest bad := by
  obtain ⟨p, hp, hR, e⟩ := h
  exact ⟨p, hp, hR.below hb, e⟩

theorem src_of {w W : World} {r l c : Nat} {a : Option Addr} {bs : List Nat} (hl : bs.length = l) (hB : Byt bs) (hlc : l ≤ c) (hlm : l ≤ 1000000) (hn : a = none → l = 0 ∧ c = 0) (hcm : c ≤ maxLen) (hr : Reads w a (bV bs)) (hrw : w.heap.size ≤ r) (hb : Below w.heap.size w W) : Src W r a l c bs := by
  refine ⟨hl, hB, hlc, hlm, hn, hcm, fun p hp => ?_⟩
  obtain ⟨b, off, e, hc⟩ := reads_byte hr hp
  have hlt := cell_some_lt hc
  exact ⟨b, off, e, by simp at hlt; omega, keep_cell hc hb⟩

theorem below_grown {w W W' : World} {r : Nat} (h : Below w.heap.size w W) (hg : W.grownBy W' (some r)) (hr : w.heap.size ≤ r) : Below w.heap.size w W' :=
  h.grown hg h.size (fun q hq => by cases hq; exact hr)

theorem rdInt_bad (bs : List Nat) (bad : Bool) (h : bad = true → bs = []) : (rdInt bs bad).2.2 = true → (rdInt bs bad).2.1 = [] := by
  unfold rdInt
  cases hd : dec bs with
  | none => simp
  | some uk =>
    intro hb
    have hb' : bad = true := hb
    rw [h hb'] at hd
    cases hd

set_option maxRecDepth 100000 in
set_option maxHeartbeats 1000000 in
theorem rread_sum (a : Option Addr) (len cap : Nat) (bs : List Nat) (w : World) (hl : bs.length = len) (h5 : 5 ≤ len) (hlen : len ≤ 1000000) (hlc : len ≤ cap) (hcm : cap ≤ maxLen) (hB : Byt bs) (hr : Reads w a (bV bs)) (hm : bs.head? = some 70) (hs : bs.drop (bs.length - 4) ≠ tail4 (crcSum (bs.take (bs.length - 4)))) :
    Calls Tryd.prog 14 #[.slice a len cap] w (ReadPost bs w) := by
  have HR := hide (show readL bs = (fr0, 5) by unfold readL; rw [if_neg (by rw [hm]; simp; omega), if_pos hs])
  have h0 : 0 < bs.length := by omega
  obtain ⟨b, off, har, hcell⟩ := reads_byte hr h0
  subst har
  have hx : bs[0] = 70 := by cases bs with | nil => simp at h0 | cons y l => simpa using hm
  rw [hx] at hcell
  have HB0 := hide ((Below.refl w.heap.size w).alloc (Nat.le_refl _) (.cells [.int .i64 0, .int .i64 0, .int .i64 0, .int .i64 0, .int .i64 0, .slice none 0 0].toArray 24))
  have HX0 := hide (BoxL.new w [.int .i64 0, .int .i64 0, .int .i64 0, .int .i64 0, .int .i64 0, .slice none 0 0] 24)
  have hc1 := keep_cell hcell (HB0.out)
  have hc2 : (w.alloc (.cells #[.int .i64 0, .int .i64 0, .int .i64 0, .int .i64 0, .int .i64 0, .slice none 0 0] 24)).cell? ⟨b, off, none⟩ = some (.int .u8 70) := by simpa using hc1
  clear hcell hc1 hx
  obtain ⟨V, hV⟩ : ∃ V, V = w.alloc (.cells #[.int .i64 0, .int .i64 0, .int .i64 0, .int .i64 0, .int .i64 0, .slice none 0 0] 24) := ⟨_, rfl⟩
  have hb0 : Below w.heap.size w V := by rw [hV]; exact HB0.out
  have CO := hide (open_any (some ⟨b, off, none⟩) len cap bs V hl h5 hlen hlc hcm hB (hr.below hb0))
  rw [← hV] at HX0
  have HV := hide hV
  have HBV := hide hb0
  rw [show decide (sealL (bs.take (len - 4)) = bs) = false by rw [← hl]; exact decide_eq_false (fun h => hs ((seal_iff bs).1 h))] at CO
  clear hV hb0 hs hr hl hB hcm h0
  go_enter Tryd.func14, Tryd.ntmps14
  go_wp2_with (first
    | (go_at_call 28; go_must (rw [← HV.out]; (with_reducible refine CO.out.mono ?_); rintro e w1 ⟨rfl, hb1⟩; have HX1 := hide (HX0.out.below hb1); have HB1 := hide (HBV.out.trans (hb1.mono HBV.out.size)); obtain ⟨⟨y0, z0⟩, ⟨y1, z1⟩, ⟨y2, z2⟩, ⟨y3, z3⟩, ⟨y4, z4⟩, ⟨y5, z5⟩⟩ := HX1.out.six)))
  have HX8 := hide (put6_box HX1.out (.int .i64 0) (.int .i64 0) (.int .i64 0) (.int .i64 0) (.int .i64 0) (.slice none 0 0))
  have HB8 := hide (put6_below HB1.out (Nat.le_refl _) (.int .i64 0) (.int .i64 0) (.int .i64 0) (.int .i64 0) (.int .i64 0) (.slice none 0 0))
  obtain ⟨X, hX⟩ : ∃ X, X = put6 w1 w.heap.size (.int .i64 0) (.int .i64 0) (.int .i64 0) (.int .i64 0) (.int .i64 0) (.slice none 0 0) := ⟨_, rfl⟩
  rw [← hX] at HX8 HB8
  unfold put6 at hX
  rw [← hX]
  clear hX
  obtain ⟨⟨x0, -⟩, ⟨x1, -⟩, ⟨x2, -⟩, ⟨x3, -⟩, ⟨x4, -⟩, ⟨x5, -⟩⟩ := HX8.out.six
  exact bodyPost_ret (v := .tuple #[.agg #[.int .i64 0, .int .i64 0, .int .i64 0, .int .i64 0, .int .i64 0, .slice none 0 0], .int .i64 (5 : Nat)]) (by simp [results, Tryd.results14, go_sem, x0, x1, x2, x3, x4, x5]) rfl (read_no HR.out HB8.out)
end Go.Proofs.YtpieagcijfkpnaaDoor
