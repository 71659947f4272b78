/- Pack and Read as the laws call them; the document's example; NoteResults' walk. -/
import Derived.Test.YtgkpioleipefmaaNoJ
namespace Go.Proofs.Ytgkpioleipefmaa
open Go.RowKit Go.ChangeShapes Go.WideShapes Go.ChangeAt Go.Deep

theorem packQ (n : No) (s : ByteArray) (av mv : Value) (B : Nat) (w : World) (hM : NM B w n s av mv) (hI : NIn n) (hm : mayN (clearN n) = true) :
    Calls Try.prog 11 #[Nv n s av mv] w fun e w' => ∃ a m c, e = .returned (.tuple #[.slice a m c, .int .i64 0]) ∧ Hid ((encN (clearN n)).length = m) ∧ Hid (m ≤ c ∧ c ≤ maxLen) ∧ Hid (Reads w' a (bV (encN (clearN n)))) ∧ Below w.heap.size w w' := by
  refine (pack_any n s av mv B w hM hI).mono ?_
  intro e w' h
  unfold PackPost at h
  simp only [hm, if_true] at h
  obtain ⟨v, rfl, ⟨a, m, c, rfl, hl, hc, _, hr, _⟩, hb⟩ := h
  exact ⟨a, m, c, rfl, hl, hide hc, hide hr, hb⟩
theorem packN (n : No) (s : ByteArray) (av mv : Value) (B : Nat) (w : World) (hM : NM B w n s av mv) (hI : NIn n) (hm : mayN (clearN n) = false) :
    Calls Try.prog 11 #[Nv n s av mv] w fun e w' => e = .returned (.tuple #[.slice none 0 0, .int .i64 1]) ∧ Below w.heap.size w w' := by
  refine (pack_any n s av mv B w hM hI).mono ?_
  intro e w' h
  unfold PackPost at h
  simp only [hm, Bool.false_eq_true, if_false] at h
  exact h
theorem readQ (n : No) (bs : List Nat) (a : Option Addr) (len cap : Nat) (w : World) (hl : bs.length = len) (hlen : len ≤ 20000) (hB : Byt bs) (hr : Reads w a (bV bs)) (hn : NoteOf bs n) :
    Calls Try.prog 17 #[.slice a len cap] w fun e w' => ∃ s aa al ac ma ml mc, e = .returned (.tuple #[Nv n s (.slice aa al ac) (.slice ma ml mc), .int .i64 0]) ∧ Hid (NM w.heap.size w' n s (.slice aa al ac) (.slice ma ml mc)) ∧ Below w.heap.size w w' := by
  refine (read_any a len cap bs w hl hlen hB hr).mono ?_
  intro e w' h
  obtain ⟨h1, h2⟩ := note_okC hn
  unfold ReadPost at h
  simp only [h2, if_true, h1] at h
  obtain ⟨s, av, mv, rfl, hM, hb⟩ := h
  have hM' := hM
  obtain ⟨_, _, _, _, ⟨aa, al, ac, rfl, _⟩, ⟨ma, ml, mc, rfl, _⟩⟩ := hM'
  exact ⟨s, aa, al, ac, ma, ml, mc, rfl, hM, hb⟩
theorem readN (bs : List Nat) (a : Option Addr) (len cap : Nat) (w : World) (hl : bs.length = len) (hlen : len ≤ 20000) (hB : Byt bs) (hr : Reads w a (bV bs)) (hn : okC bs = false) :
    Calls Try.prog 17 #[.slice a len cap] w fun e w' => e = .returned (.tuple #[Nv no0 ⟨#[]⟩ (.slice none 0 0) (.slice none 0 0), .int .i64 4]) ∧ Below w.heap.size w w' := by
  refine (read_any a len cap bs w hl hlen hB hr).mono ?_
  intro e w' h
  unfold ReadPost at h
  simp only [hn, Bool.false_eq_true, if_false] at h
  exact h
theorem NM.zero (B : Nat) (w : World) (n : No) (h1 : n.id = []) (h2 : n.args = []) (h3 : n.mem = []) : NM B w n ⟨#[]⟩ (.slice none 0 0) (.slice none 0 0) := by
  refine ⟨by rw [h1]; rfl, (by show (0 : Nat) ≤ 20000; omega), (by rw [h2]; exact Nat.zero_le _), (by rw [h3]; exact Nat.zero_le _), ?_, ?_⟩
  · rw [h2]; exact RowV.nil _ _
  · rw [h3]; exact RowV.nil _ _
theorem encN_len (n : No) (h1 : n.id.length ≤ 500) (h2 : n.args.length ≤ 200) (h3 : n.mem.length ≤ 200) : (encN n).length ≤ 10000 := by
  have hi := fun x => (encI_len x).2
  have a0 := hi n.kind
  have a1 := hi n.node
  have a2 := hi n.life
  have a3 := hi n.epoch
  have a4 := hi n.func
  have a5 := hi n.err
  have a6 := hi n.val
  have a7 := hi n.vep
  have a8 := hi n.args.length
  have a9 := hi n.mem.length
  have b1 := encs_length n.args
  have b2 := encM_len n.mem
  have b3 := enc_len (foldN (n.id.length : Int))
  have lif : ∀ (c : Bool) (x : List Nat) (k : Nat), x.length ≤ k → (if c = true then x else []).length ≤ k := fun c x k h => by cases c <;> simp <;> omega
  have c1 := lif (hasView n.kind) (encI n.vep ++ (encI n.mem.length ++ encM n.mem)) 4020 (by simp only [List.length_append]; omega)
  have c2 := lif (hasEpoch n.kind) (encI n.epoch) 10 a3
  have c3 := lif (hasLife n.kind && !(n.kind == 1)) (encI n.life) 10 a2
  have c4 := lif (hasNode n.kind) (encI n.node) 10 a1
  have c5 := lif (n.kind == 1) (encI n.life) 10 a2
  have c6 := lif (hasId n.kind) (encT n.id) 510 (by simp only [encT, List.length_append]; omega)
  have c7 := lif (hasRes n.kind) (encI n.err ++ encI n.val) 20 (by simp only [List.length_append]; omega)
  have c8 := lif (hasFunc n.kind) (encI n.func ++ (encI n.args.length ++ encs n.args)) 2020 (by simp only [List.length_append]; omega)
  unfold encN
  simp only [List.length_append] at *
  omega
theorem encI_byt {x : Int} (h : In1 x) : Byt (encI x) := enc_byt x h.1 h.2
theorem encM_byt {l : List (Int × Int)} (h : ∀ m ∈ l, In1 m.1 ∧ In1 m.2) : Byt (encM l) := by
  intro x hx
  simp only [encM, List.mem_flatMap] at hx
  obtain ⟨m, hm, hx⟩ := hx
  exact ((encI_byt (h m hm).1).append (encI_byt (h m hm).2)) x hx
theorem encN_byt (n : No) (hI : NIn n) (hid : Byt n.id) (h1 : n.id.length ≤ 20000) (h2 : n.args.length ≤ 20000) (h3 : n.mem.length ≤ 20000) : Byt (encN n) := by
  obtain ⟨⟨i0, i1, i2, i3⟩, ⟨i4, i5⟩, ⟨i6, i7⟩, i8, i9⟩ := hI
  have byif : ∀ (c : Bool) (x : List Nat), Byt x → Byt (if c = true then x else []) := fun c x h => by
    cases c
    · intro y hy; simp at hy
    · exact h
  have la : In1 (n.args.length : Int) := by unfold In1; omega
  have lm : In1 (n.mem.length : Int) := by unfold In1; omega
  unfold encN
  exact (encI_byt i0).append ((byif _ _ ((encI_byt i8).append ((encI_byt lm).append (encM_byt i9)))).append ((byif _ _ (encI_byt i3)).append ((byif _ _ (encI_byt i2)).append ((byif _ _ (encI_byt i1)).append ((byif _ _ (encI_byt i2)).append ((byif _ _ (encT_byt hid (by omega))).append ((byif _ _ ((encI_byt i6).append (encI_byt i7))).append (byif _ _ ((encI_byt i4).append ((encI_byt la).append (encs_byt i5)))))))))))

def exN : No := ⟨1, 3, 1, 0, [], 0, [], 0, 0, 0, []⟩
theorem exN_ok : mayN (clearN exN) = true ∧ encN (clearN exN) = [2, 6, 2] := by decide +kernel
theorem exN_in : NIn exN := by simp [NIn, exN, In1, In64]
theorem exN_str : bstr [2, 6, 2] = ⟨#[2, 6, 2]⟩ := by decide +kernel

set_option maxRecDepth 100000 in
set_option maxHeartbeats 8000000 in
/-- The document's example. -/
theorem alive_any (w : World) : Calls Try.prog 9 #[] w fun e w' => e = .returned (.bool true) ∧ Below w.heap.size w w' := by
  have CP := hide (packQ exN ⟨#[]⟩ (.slice none 0 0) (.slice none 0 0) 0 w (NM.zero 0 w exN rfl rfl rfl) exN_in exN_ok.1)
  rw [exN_ok.2] at CP
  simp only [Nv, exN] at CP
  go_enter Try.func9, Try.ntmps9
  go_wp2_with (first
    | (go_at_call 11; go_must ((with_reducible refine CP.out.mono ?_); rintro e w1 ⟨a1, m1, c1, rfl, hm1, -, hr1, hb1⟩; have kc := run_str (S := ⟨#[2, 6, 2]⟩) exN_str.symm hm1.out hr1.out c1))
    | (go_at_call 13; go_must ((with_reducible refine (lnum_any _ _).mono ?_); rintro e w3 ⟨rfl, rfl⟩)))
  go_ret
  exact ⟨rfl, hb1⟩

namespace noteResults
def rN (err v : Int) : No := ⟨8, 0, 0, 0, [], 0, [], err, v, 0, []⟩
theorem rN_clear (err v : Int) : clearN (rN err v) = rN err v := by
  simp [clearN, rN, isKind, hasNode, hasLife, hasEpoch, hasId, hasFunc, hasRes, hasView]
theorem rN_may (err v : Int) : mayN (rN err v) = okRes err v := by
  unfold mayN rN
  simp [isKind, okN, okNum, okId, okView, rises]
theorem rN_in {err v : Int} (h1 : In1 err) (h2 : In1 v) : NIn (rN err v) := by
  refine ⟨⟨?_, ?_, ?_, ?_⟩, ⟨?_, ?_⟩, ⟨h1, h2⟩, ?_, ?_⟩ <;> simp [rN, In1, In64]

set_option maxRecDepth 100000 in
set_option maxHeartbeats 8000000 in
theorem zero (v : Int) (w : World) (h1 : In1 0) (h2 : In1 v) : Calls Try.prog 7 #[.int .i64 0, .int .i64 v] w fun e w' => e = .returned (.bool true) ∧ Below w.heap.size w w' := by
  have hok : okRes 0 v = true := by simp [okRes]
  have CP := hide (fun W => packQ (rN 0 v) ⟨#[]⟩ (.slice none 0 0) (.slice none 0 0) 0 W (NM.zero 0 W _ rfl rfl rfl) (rN_in h1 h2) (by rw [rN_clear, rN_may]; exact hok))
  rw [rN_clear] at CP
  have HNO := hide (show NoteOf (encN (rN 0 v)) (rN 0 v) from ⟨by rw [rN_may]; exact hok, rN_clear _ _, h2, (fun x hx => by cases hx), rfl⟩)
  have HLE := hide (encN_len (rN 0 v) (Nat.zero_le _) (Nat.zero_le _) (Nat.zero_le _))
  have HBY := hide (encN_byt (rN 0 v) (rN_in h1 h2) (fun x hx => by cases hx) (Nat.zero_le _) (Nat.zero_le _) (Nat.zero_le _))
  generalize encN (rN 0 v) = Z at CP HNO HLE HBY
  have CR := hide (fun W a m c hm hr => readQ (rN 0 v) Z a m c W hm (by have := HLE.out; omega) HBY.out hr HNO.out)
  simp only [Nv, rN] at CP CR
  clear hok h1 h2 HNO HBY
  go_enter Try.func7, Try.ntmps7
  go_wp2_with (first
    | (go_at_call 9; go_must ((with_reducible refine (alive_any w).mono ?_); rintro e w1 ⟨rfl, hb1⟩; have HB2 := hide (hb1.alloc hb1.size (.cells #[.int .i64 8, .int .i64 0, .int .i64 0, .int .i64 0, .string ⟨#[]⟩, .int .i64 0, .slice none 0 0, .int .i64 0, .int .i64 v, .int .i64 0, .slice none 0 0] 31))))
    | (go_at_call 11; go_must ((with_reducible refine (CP.out _).mono ?_); rintro e w2 ⟨a2, m2, c2, rfl, hm2, -, hr2, hb2⟩; have HB3 := hide (HB2.out.trans (hb2.mono HB2.out.size))))
    | (go_at_call 13; go_must ((with_reducible refine (lnum_any _ _).mono ?_); rintro e w3 ⟨rfl, rfl⟩))
    | (go_at_call 17; go_must ((with_reducible refine (CR.out _ a2 m2 c2 hm2.out hr2.out).mono ?_); rintro e w4 ⟨s4, aa4, al4, ac4, ma4, ml4, mc4, rfl, -, hb4⟩; have HB4 := hide (HB3.out.trans (hb4.mono HB3.out.size)))))
  go_ret
  exact ⟨rfl, HB4.out.alloc HB4.out.size _⟩

set_option maxRecDepth 100000 in
set_option maxHeartbeats 8000000 in
theorem fail (v : Int) (w : World) (h1 : In1 25) (h2 : In1 v) : Calls Try.prog 7 #[.int .i64 25, .int .i64 v] w fun e w' => e = .returned (.bool true) ∧ Below w.heap.size w w' := by
  have hok : okRes 25 v = true := by simp [okRes]
  have CP := hide (fun W => packQ (rN 25 v) ⟨#[]⟩ (.slice none 0 0) (.slice none 0 0) 0 W (NM.zero 0 W _ rfl rfl rfl) (rN_in h1 h2) (by rw [rN_clear, rN_may]; exact hok))
  rw [rN_clear] at CP
  have HNO := hide (show NoteOf (encN (rN 25 v)) (rN 25 v) from ⟨by rw [rN_may]; exact hok, rN_clear _ _, h2, (fun x hx => by cases hx), rfl⟩)
  have HLE := hide (encN_len (rN 25 v) (Nat.zero_le _) (Nat.zero_le _) (Nat.zero_le _))
  have HBY := hide (encN_byt (rN 25 v) (rN_in h1 h2) (fun x hx => by cases hx) (Nat.zero_le _) (Nat.zero_le _) (Nat.zero_le _))
  generalize encN (rN 25 v) = Z at CP HNO HLE HBY
  have CR := hide (fun W a m c hm hr => readQ (rN 25 v) Z a m c W hm (by have := HLE.out; omega) HBY.out hr HNO.out)
  simp only [Nv, rN] at CP CR
  clear hok h1 h2 HNO HBY
  go_enter Try.func7, Try.ntmps7
  go_wp2_with (first
    | (go_at_call 9; go_must ((with_reducible refine (alive_any w).mono ?_); rintro e w1 ⟨rfl, hb1⟩; have HB2 := hide (hb1.alloc hb1.size (.cells #[.int .i64 8, .int .i64 0, .int .i64 0, .int .i64 0, .string ⟨#[]⟩, .int .i64 0, .slice none 0 0, .int .i64 25, .int .i64 v, .int .i64 0, .slice none 0 0] 31))))
    | (go_at_call 11; go_must ((with_reducible refine (CP.out _).mono ?_); rintro e w2 ⟨a2, m2, c2, rfl, hm2, -, hr2, hb2⟩; have HB3 := hide (HB2.out.trans (hb2.mono HB2.out.size))))
    | (go_at_call 13; go_must ((with_reducible refine (lnum_any _ _).mono ?_); rintro e w3 ⟨rfl, rfl⟩))
    | (go_at_call 17; go_must ((with_reducible refine (CR.out _ a2 m2 c2 hm2.out hr2.out).mono ?_); rintro e w4 ⟨s4, aa4, al4, ac4, ma4, ml4, mc4, rfl, -, hb4⟩; have HB4 := hide (HB3.out.trans (hb4.mono HB3.out.size)))))
  go_ret
  exact ⟨rfl, HB4.out.alloc HB4.out.size _⟩

set_option maxRecDepth 100000 in
set_option maxHeartbeats 8000000 in
theorem mid (err : Int) (q20 : 20 ≤ err) (q25 : err < 25) (w : World) (h1 : In1 err) (h2 : In1 0) : Calls Try.prog 7 #[.int .i64 err, .int .i64 0] w fun e w' => e = .returned (.bool true) ∧ Below w.heap.size w w' := by
  have hok : okRes err 0 = true := by simp [okRes]; omega
  have CP := hide (fun W => packQ (rN err 0) ⟨#[]⟩ (.slice none 0 0) (.slice none 0 0) 0 W (NM.zero 0 W _ rfl rfl rfl) (rN_in h1 h2) (by rw [rN_clear, rN_may]; exact hok))
  rw [rN_clear] at CP
  have HNO := hide (show NoteOf (encN (rN err 0)) (rN err 0) from ⟨by rw [rN_may]; exact hok, rN_clear _ _, h2, (fun x hx => by cases hx), rfl⟩)
  have HLE := hide (encN_len (rN err 0) (Nat.zero_le _) (Nat.zero_le _) (Nat.zero_le _))
  have HBY := hide (encN_byt (rN err 0) (rN_in h1 h2) (fun x hx => by cases hx) (Nat.zero_le _) (Nat.zero_le _) (Nat.zero_le _))
  generalize encN (rN err 0) = Z at CP HNO HLE HBY
  have CR := hide (fun W a m c hm hr => readQ (rN err 0) Z a m c W hm (by have := HLE.out; omega) HBY.out hr HNO.out)
  simp only [Nv, rN] at CP CR
  have q0 : (err == 0) = false := by rw [beq_eq_false_iff_ne]; omega
  have q1 : (err == 25) = false := by rw [beq_eq_false_iff_ne]; omega
  clear hok h1 h2 HNO HBY
  go_enter Try.func7, Try.ntmps7
  go_wp2_with (first
    | (go_at_call 9; go_must ((with_reducible refine (alive_any w).mono ?_); rintro e w1 ⟨rfl, hb1⟩; have HB2 := hide (hb1.alloc hb1.size (.cells #[.int .i64 8, .int .i64 0, .int .i64 0, .int .i64 0, .string ⟨#[]⟩, .int .i64 0, .slice none 0 0, .int .i64 err, .int .i64 0, .int .i64 0, .slice none 0 0] 31))))
    | (go_at_call 11; go_must ((with_reducible refine (CP.out _).mono ?_); rintro e w2 ⟨a2, m2, c2, rfl, hm2, -, hr2, hb2⟩; have HB3 := hide (HB2.out.trans (hb2.mono HB2.out.size))))
    | (go_at_call 13; go_must ((with_reducible refine (lnum_any _ _).mono ?_); rintro e w3 ⟨rfl, rfl⟩))
    | (go_at_call 17; go_must ((with_reducible refine (CR.out _ a2 m2 c2 hm2.out hr2.out).mono ?_); rintro e w4 ⟨s4, aa4, al4, ac4, ma4, ml4, mc4, rfl, -, hb4⟩; have HB4 := hide (HB3.out.trans (hb4.mono HB3.out.size)))))
  go_ret
  exact ⟨rfl, HB4.out.alloc HB4.out.size _⟩

set_option maxRecDepth 100000 in
set_option maxHeartbeats 8000000 in
theorem low (err v : Int) (h20 : ¬ 20 ≤ err) (w : World) (h1 : In1 err) (h2 : In1 v) (hok : okRes err v = false) (q0 : (err == 0) = false) (q1 : (err == 25) = false) : Calls Try.prog 7 #[.int .i64 err, .int .i64 v] w fun e w' => e = .returned (.bool true) ∧ Below w.heap.size w w' := by
  have CP := hide (fun W => packN (rN err v) ⟨#[]⟩ (.slice none 0 0) (.slice none 0 0) 0 W (NM.zero 0 W _ rfl rfl rfl) (rN_in h1 h2) (by rw [rN_clear, rN_may]; exact hok))
  simp only [Nv, rN] at CP
  clear hok h1 h2
  go_enter Try.func7, Try.ntmps7
  go_wp2_with (first
    | (go_at_call 9; go_must ((with_reducible refine (alive_any w).mono ?_); rintro e w1 ⟨rfl, hb1⟩; have HB2 := hide (hb1.alloc hb1.size (.cells #[.int .i64 8, .int .i64 0, .int .i64 0, .int .i64 0, .string ⟨#[]⟩, .int .i64 0, .slice none 0 0, .int .i64 err, .int .i64 v, .int .i64 0, .slice none 0 0] 31))))
    | (go_at_call 11; go_must ((with_reducible refine (CP.out _).mono ?_); rintro e w2 ⟨rfl, hb2⟩; have HB3 := hide (HB2.out.trans (hb2.mono HB2.out.size))))
    | (go_at_call 13; go_must ((with_reducible refine (lnum_any _ _).mono ?_); rintro e w3 ⟨rfl, rfl⟩)))
  go_ret
  exact ⟨rfl, HB3.out⟩

set_option maxRecDepth 100000 in
set_option maxHeartbeats 8000000 in
theorem high (err v : Int) (h20 : 20 ≤ err) (h24 : ¬ err < 25) (w : World) (h1 : In1 err) (h2 : In1 v) (hok : okRes err v = false) (q0 : (err == 0) = false) (q1 : (err == 25) = false) : Calls Try.prog 7 #[.int .i64 err, .int .i64 v] w fun e w' => e = .returned (.bool true) ∧ Below w.heap.size w w' := by
  have CP := hide (fun W => packN (rN err v) ⟨#[]⟩ (.slice none 0 0) (.slice none 0 0) 0 W (NM.zero 0 W _ rfl rfl rfl) (rN_in h1 h2) (by rw [rN_clear, rN_may]; exact hok))
  simp only [Nv, rN] at CP
  clear hok h1 h2
  go_enter Try.func7, Try.ntmps7
  go_wp2_with (first
    | (go_at_call 9; go_must ((with_reducible refine (alive_any w).mono ?_); rintro e w1 ⟨rfl, hb1⟩; have HB2 := hide (hb1.alloc hb1.size (.cells #[.int .i64 8, .int .i64 0, .int .i64 0, .int .i64 0, .string ⟨#[]⟩, .int .i64 0, .slice none 0 0, .int .i64 err, .int .i64 v, .int .i64 0, .slice none 0 0] 31))))
    | (go_at_call 11; go_must ((with_reducible refine (CP.out _).mono ?_); rintro e w2 ⟨rfl, hb2⟩; have HB3 := hide (HB2.out.trans (hb2.mono HB2.out.size))))
    | (go_at_call 13; go_must ((with_reducible refine (lnum_any _ _).mono ?_); rintro e w3 ⟨rfl, rfl⟩)))
  go_ret
  exact ⟨rfl, HB3.out⟩

set_option maxRecDepth 100000 in
set_option maxHeartbeats 8000000 in
theorem value (err v : Int) (h20 : 20 ≤ err) (h24 : err < 25) (hv : (v == 0) = false) (w : World) (h1 : In1 err) (h2 : In1 v) (hok : okRes err v = false) (q0 : (err == 0) = false) (q1 : (err == 25) = false) : Calls Try.prog 7 #[.int .i64 err, .int .i64 v] w fun e w' => e = .returned (.bool true) ∧ Below w.heap.size w w' := by
  have CP := hide (fun W => packN (rN err v) ⟨#[]⟩ (.slice none 0 0) (.slice none 0 0) 0 W (NM.zero 0 W _ rfl rfl rfl) (rN_in h1 h2) (by rw [rN_clear, rN_may]; exact hok))
  simp only [Nv, rN] at CP
  clear hok h1 h2
  go_enter Try.func7, Try.ntmps7
  go_wp2_with (first
    | (go_at_call 9; go_must ((with_reducible refine (alive_any w).mono ?_); rintro e w1 ⟨rfl, hb1⟩; have HB2 := hide (hb1.alloc hb1.size (.cells #[.int .i64 8, .int .i64 0, .int .i64 0, .int .i64 0, .string ⟨#[]⟩, .int .i64 0, .slice none 0 0, .int .i64 err, .int .i64 v, .int .i64 0, .slice none 0 0] 31))))
    | (go_at_call 11; go_must ((with_reducible refine (CP.out _).mono ?_); rintro e w2 ⟨rfl, hb2⟩; have HB3 := hide (HB2.out.trans (hb2.mono HB2.out.size))))
    | (go_at_call 13; go_must ((with_reducible refine (lnum_any _ _).mono ?_); rintro e w3 ⟨rfl, rfl⟩)))
  go_ret
  exact ⟨rfl, HB3.out⟩

theorem walk (err v : Int) (w : World) (h1 : In1 err) (h2 : In1 v) : Calls Try.prog 7 #[.int .i64 err, .int .i64 v] w fun e w' => e = .returned (.bool true) ∧ Below w.heap.size w w' := by
  by_cases e0 : err = 0
  · subst e0; exact zero v w h1 h2
  · by_cases e25 : err = 25
    · subst e25; exact fail v w h1 h2
    · have q0 : (err == 0) = false := by rw [beq_eq_false_iff_ne]; exact e0
      have q1 : (err == 25) = false := by rw [beq_eq_false_iff_ne]; exact e25
      by_cases h20 : 20 ≤ err
      · by_cases h24 : err < 25
        · by_cases hv : v = 0
          · subst hv; exact mid err h20 h24 w h1 h2
          · exact value err v h20 h24 (by rw [beq_eq_false_iff_ne]; exact hv) w h1 h2 (by simp [okRes, e0, e25, hv]) q0 q1
        · exact high err v h20 h24 w h1 h2 (by simp [okRes, e0, e25]; omega) q0 q1
      · exact low err v h20 w h1 h2 (by simp [okRes, e0, e25]; omega) q0 q1
end noteResults
end Go.Proofs.Ytgkpioleipefmaa
