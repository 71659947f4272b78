/- NoteCuts' walk. -/
import Derived.Test.YtgkpioleipefmaaFieW
import Derived.Test.YtgkpioleipefmaaRpv
import Derived.Test.YtgkpioleipefmaaArgN
namespace Go.Proofs.Ytgkpioleipefmaa
namespace noteCuts
open Go.RowKit Go.ChangeShapes Go.WideShapes Go.ChangeAt Go.Deep
open noteFields

/-- No beginning of a note's bytes is a note's. -/
theorem cut_no {Z : List Nat} {n : No} {r : Nat} (hB : Byt Z) (h : NoteOf Z n) (hr : r < Z.length) : okC (Z.take r) = false := by
  cases hc : okC (Z.take r) with
  | false => rfl
  | true =>
    have h1 := okC_note (fun x hx => hB x (List.mem_of_mem_take hx)) hc
    have h2 : NoteOf (Z.take r ++ Z.drop r) n := by rw [List.take_append_drop]; exact h
    have h3 := note_ahead h1 h2
    have h4 := congrArg List.length h3
    rw [List.length_drop] at h4
    simp at h4
    omega
/-- None with more behind is one. -/
theorem more_no {Z m : List Nat} {n : No} (hB : Byt (Z ++ m)) (h : NoteOf Z n) (hm : m ≠ []) : okC (Z ++ m) = false := by
  cases hc : okC (Z ++ m) with
  | false => rfl
  | true => exact absurd (note_ahead h (okC_note hB hc)) hm
theorem slice_b (w : World) (a : Option Addr) (n c k : Nat) (hk : k ≤ c) : (Instr.slice 34 (.slice a n c) none (some (.int .i64 (k : Int))) none).run Try.prog w = .ok (.slice a k c) w := by
  simp [Instr.slice, run_underlying Try.underlying34, Instr.sliceBounds, run_sliceBound (P := Try.prog) w .i64 (k : Int) c .sliceAcap (by omega) (by omega)]
  cases a <;> simp [Addr.add_zero']
theorem reads_of6 {w : World} {B n : Nat} {v : Value} {xs : List Nat} (h : w.ownsRow B 5 1 v n (bV xs)) : ∃ a l c, v = .slice a l c ∧ Reads w a (bV xs) := by
  rcases h.2 with ⟨rfl, h0⟩ | ⟨g, cap, cur, rfl, _⟩
  · refine ⟨none, 0, 0, rfl, .inl ?_⟩
    have := h.1
    exact List.eq_nil_of_length_eq_zero (by omega)
  · refine ⟨_, _, cap, rfl, .inr ⟨g, 0, rfl, fun j u hu => ?_⟩⟩
    have := h.cells (g := g) rfl j u hu
    rwa [add_none] at this
/-- What is known of the bytes of a note. -/
theorem note_facts {w : World} {n : No} {s : ByteArray} {aa ma : Option Addr} {al ac ml mc : Nat} (q : Small s al ml) (o : ArgN w n s aa al ac ma ml mc) (hm : mayN (clearN n) = true) : NoteOf (encN (clearN n)) (clearN n) ∧ Byt (encN (clearN n)) ∧ (encN (clearN n)).length ≤ 10000 ∧ 0 < (encN (clearN n)).length := by
  have hl1 := o.hal
  have hk1 := o.hml
  have hi1 : n.id.length ≤ 500 := by rw [← o.hid]; simpa [uN] using q.1
  have hq1 := q.2
  have c1 := clear_len n
  have hb1 : Byt (clearN n).id := by
    intro x hx
    have hx' : x ∈ n.id := by
      unfold clearN at hx
      split at hx
      · simp only at hx
        split at hx
        · exact hx
        · cases hx
      · cases hx
    rw [← o.hid] at hx'
    simp only [uN, List.mem_map] at hx'
    obtain ⟨y, _, rfl⟩ := hx'
    exact UInt8.toNat_lt y
  exact ⟨⟨hm, clear_twice n, (clear_in o.inn).2.2.1.2, (clear_in o.inn).2.1.2, rfl⟩, encN_byt (clearN n) (clear_in o.inn) hb1 (by omega) (by omega) (by omega), encN_len _ (by omega) (by omega) (by omega), encN_pos _⟩
theorem rpackQ (n : No) (s : ByteArray) (av mv : Value) (B : Nat) (w : World) (hM : NM B w n s av mv) (hI : NIn n) (hm : mayN (clearN n) = true) : Calls Try.prog 12 #[Nv n s av mv] w (RP (encN (clearN n)) w) := by
  refine (rpack_any n s av mv B w hM hI).mono ?_
  intro e w' h
  unfold RPost at h
  simp only [hm, if_true] at h
  exact h
theorem rpackN (n : No) (s : ByteArray) (av mv : Value) (B : Nat) (w : World) (hM : NM B w n s av mv) (hI : NIn n) (hm : mayN (clearN n) = false) : Calls Try.prog 12 #[Nv n s av mv] w fun e w' => e = .returned (.tuple #[.slice none 0 0, .int .i64 1]) ∧ Below w.heap.size w w' := by
  refine (rpack_any n s av mv B w hM hI).mono ?_
  intro e w' h
  unfold RPost at h
  simp only [hm, Bool.false_eq_true, if_false] at h
  exact h

set_option maxRecDepth 100000 in
set_option maxHeartbeats 16000000 in
theorem skip1 (n : No) (s : ByteArray) (aa ma : Option Addr) (al ac ml mc : Nat) (t : Int) (ra : Option Addr) (rl rc : Nat) (w : World) (hs : s.size ≤ maxLen) (hb : 500 < s.size ∨ 200 < al ∨ 200 < ml) : Calls Try.prog 5 #[.agg #[.int .i64 n.kind, .int .i64 n.node, .int .i64 n.life, .int .i64 n.epoch, .string s, .int .i64 n.func, .slice aa al ac, .int .i64 n.err, .int .i64 n.val, .int .i64 n.vep, .slice ma ml mc], .int .i64 t, .slice ra rl rc] w fun e w' => e = .returned (.bool true) ∧ Below w.heap.size w w' := by
  have CB := hide (fun W => big_yes n.kind n.node n.life n.epoch s n.func aa al ac n.err n.val n.vep ma ml mc W hs hb)
  clear hs hb
  obtain ⟨V, hV⟩ : ∃ V, V = w.alloc (.cells #[.int .i64 n.kind, .int .i64 n.node, .int .i64 n.life, .int .i64 n.epoch, .string s, .int .i64 n.func, .slice aa al ac, .int .i64 n.err, .int .i64 n.val, .int .i64 n.vep, .slice ma ml mc] 31) := ⟨_, rfl⟩
  have HX := hide (show BoxL V w.heap.size [.int .i64 n.kind, .int .i64 n.node, .int .i64 n.life, .int .i64 n.epoch, .string s, .int .i64 n.func, .slice aa al ac, .int .i64 n.err, .int .i64 n.val, .int .i64 n.vep, .slice ma ml mc] by rw [hV]; exact BoxL.new w _ 31)
  have HB := hide (show Below w.heap.size w V by rw [hV]; exact below_new w _)
  have HV := hide hV
  clear hV
  go_enter Try.func5, Try.ntmps5
  go_wp2_with (first
    | (go_at_call 9; go_must (rw [← HV.out]; (with_reducible refine (alive_any V).mono ?_); rintro e w1 ⟨rfl, hb1⟩; have HX1 := hide (HX.out.below hb1); have HB1 := hide (HB.out.trans (hb1.mono HB.out.size)); obtain ⟨k0, k1, k2, k3, k4, k5, k6, k7, k8, k9, k10⟩ := HX1.out.c11; clear hb1))
    | (go_at_call 10; go_must ((with_reducible refine (CB.out w1).mono ?_); rintro e w2 ⟨rfl, hb2⟩; have HX2 := hide (HX1.out.below hb2); have HB2 := hide (HB1.out.trans (hb2.mono HB1.out.size)); clear k0 k1 k2 k3 k4 k5 k6 k7 k8 k9 k10; obtain ⟨g0, g1, g2, g3, g4, g5, g6, g7, g8, g9, g10⟩ := HX2.out.c11; clear hb2)))
  go_ret
  exact ⟨rfl, HB2.out⟩

set_option maxRecDepth 100000 in
set_option maxHeartbeats 16000000 in
theorem skip2 (n : No) (s : ByteArray) (aa ma : Option Addr) (al ac ml mc : Nat) (t : Int) (ra : Option Addr) (rl rc : Nat) (w : World) (q : Small s al ml) (ht : t < 0) : Calls Try.prog 5 #[.agg #[.int .i64 n.kind, .int .i64 n.node, .int .i64 n.life, .int .i64 n.epoch, .string s, .int .i64 n.func, .slice aa al ac, .int .i64 n.err, .int .i64 n.val, .int .i64 n.vep, .slice ma ml mc], .int .i64 t, .slice ra rl rc] w fun e w' => e = .returned (.bool true) ∧ Below w.heap.size w w' := by
  have CB := hide (fun W => big_no n.kind n.node n.life n.epoch s n.func aa al ac n.err n.val n.vep ma ml mc W q.1 q.2.1 q.2.2)
  clear q
  obtain ⟨V, hV⟩ : ∃ V, V = w.alloc (.cells #[.int .i64 n.kind, .int .i64 n.node, .int .i64 n.life, .int .i64 n.epoch, .string s, .int .i64 n.func, .slice aa al ac, .int .i64 n.err, .int .i64 n.val, .int .i64 n.vep, .slice ma ml mc] 31) := ⟨_, rfl⟩
  have HX := hide (show BoxL V w.heap.size [.int .i64 n.kind, .int .i64 n.node, .int .i64 n.life, .int .i64 n.epoch, .string s, .int .i64 n.func, .slice aa al ac, .int .i64 n.err, .int .i64 n.val, .int .i64 n.vep, .slice ma ml mc] by rw [hV]; exact BoxL.new w _ 31)
  have HB := hide (show Below w.heap.size w V by rw [hV]; exact below_new w _)
  have HV := hide hV
  clear hV
  go_enter Try.func5, Try.ntmps5
  go_wp2_with (first
    | (go_at_call 9; go_must (rw [← HV.out]; (with_reducible refine (alive_any V).mono ?_); rintro e w1 ⟨rfl, hb1⟩; have HX1 := hide (HX.out.below hb1); have HB1 := hide (HB.out.trans (hb1.mono HB.out.size)); obtain ⟨k0, k1, k2, k3, k4, k5, k6, k7, k8, k9, k10⟩ := HX1.out.c11; clear hb1))
    | (go_at_call 10; go_must ((with_reducible refine (CB.out w1).mono ?_); rintro e w2 ⟨rfl, hb2⟩; have HX2 := hide (HX1.out.below hb2); have HB2 := hide (HB1.out.trans (hb2.mono HB1.out.size)); clear k0 k1 k2 k3 k4 k5 k6 k7 k8 k9 k10; obtain ⟨g0, g1, g2, g3, g4, g5, g6, g7, g8, g9, g10⟩ := HX2.out.c11; clear hb2)))
  go_ret
  exact ⟨rfl, HB2.out⟩

set_option maxRecDepth 100000 in
set_option maxHeartbeats 16000000 in
theorem skip3 (n : No) (s : ByteArray) (aa ma : Option Addr) (al ac ml mc : Nat) (t : Int) (ra : Option Addr) (rl rc : Nat) (w : World) (q : Small s al ml) (ht : 0 ≤ t) (hr : 50 < rl) : Calls Try.prog 5 #[.agg #[.int .i64 n.kind, .int .i64 n.node, .int .i64 n.life, .int .i64 n.epoch, .string s, .int .i64 n.func, .slice aa al ac, .int .i64 n.err, .int .i64 n.val, .int .i64 n.vep, .slice ma ml mc], .int .i64 t, .slice ra rl rc] w fun e w' => e = .returned (.bool true) ∧ Below w.heap.size w w' := by
  have CB := hide (fun W => big_no n.kind n.node n.life n.epoch s n.func aa al ac n.err n.val n.vep ma ml mc W q.1 q.2.1 q.2.2)
  have hr2 : (50 : Int) < (rl : Int) := by omega
  clear q hr
  obtain ⟨V, hV⟩ : ∃ V, V = w.alloc (.cells #[.int .i64 n.kind, .int .i64 n.node, .int .i64 n.life, .int .i64 n.epoch, .string s, .int .i64 n.func, .slice aa al ac, .int .i64 n.err, .int .i64 n.val, .int .i64 n.vep, .slice ma ml mc] 31) := ⟨_, rfl⟩
  have HX := hide (show BoxL V w.heap.size [.int .i64 n.kind, .int .i64 n.node, .int .i64 n.life, .int .i64 n.epoch, .string s, .int .i64 n.func, .slice aa al ac, .int .i64 n.err, .int .i64 n.val, .int .i64 n.vep, .slice ma ml mc] by rw [hV]; exact BoxL.new w _ 31)
  have HB := hide (show Below w.heap.size w V by rw [hV]; exact below_new w _)
  have HV := hide hV
  clear hV
  go_enter Try.func5, Try.ntmps5
  go_wp2_with (first
    | (go_at_call 9; go_must (rw [← HV.out]; (with_reducible refine (alive_any V).mono ?_); rintro e w1 ⟨rfl, hb1⟩; have HX1 := hide (HX.out.below hb1); have HB1 := hide (HB.out.trans (hb1.mono HB.out.size)); obtain ⟨k0, k1, k2, k3, k4, k5, k6, k7, k8, k9, k10⟩ := HX1.out.c11; clear hb1))
    | (go_at_call 10; go_must ((with_reducible refine (CB.out w1).mono ?_); rintro e w2 ⟨rfl, hb2⟩; have HX2 := hide (HX1.out.below hb2); have HB2 := hide (HB1.out.trans (hb2.mono HB1.out.size)); clear k0 k1 k2 k3 k4 k5 k6 k7 k8 k9 k10; obtain ⟨g0, g1, g2, g3, g4, g5, g6, g7, g8, g9, g10⟩ := HX2.out.c11; clear hb2)))
  go_ret
  exact ⟨rfl, HB2.out⟩

set_option maxRecDepth 100000 in
set_option maxHeartbeats 16000000 in
theorem none_no (n : No) (s : ByteArray) (aa ma : Option Addr) (al ac ml mc : Nat) (t : Int) (ra : Option Addr) (rl rc : Nat) (w : World) (q : Small s al ml) (o : ArgN w n s aa al ac ma ml mc) (hm : mayN (clearN n) = false) (ht : 0 ≤ t) (hr : rl ≤ 50) : Calls Try.prog 5 #[.agg #[.int .i64 n.kind, .int .i64 n.node, .int .i64 n.life, .int .i64 n.epoch, .string s, .int .i64 n.func, .slice aa al ac, .int .i64 n.err, .int .i64 n.val, .int .i64 n.vep, .slice ma ml mc], .int .i64 t, .slice ra rl rc] w fun e w' => e = .returned (.bool true) ∧ Below w.heap.size w w' := by
  have CB := hide (fun W => big_no n.kind n.node n.life n.epoch s n.func aa al ac n.err n.val n.vep ma ml mc W q.1 q.2.1 q.2.2)
  have CP := hide (fun W (hb : Below w.heap.size w W) => rpackN n s (.slice aa al ac) (.slice ma ml mc) 0 W ((small_mem o q).below hb) o.inn hm)
  simp only [Nv] at CP
  have hr2 : (rl : Int) ≤ 50 := by omega
  clear q o hm hr
  obtain ⟨V, hV⟩ : ∃ V, V = w.alloc (.cells #[.int .i64 n.kind, .int .i64 n.node, .int .i64 n.life, .int .i64 n.epoch, .string s, .int .i64 n.func, .slice aa al ac, .int .i64 n.err, .int .i64 n.val, .int .i64 n.vep, .slice ma ml mc] 31) := ⟨_, rfl⟩
  have HX := hide (show BoxL V w.heap.size [.int .i64 n.kind, .int .i64 n.node, .int .i64 n.life, .int .i64 n.epoch, .string s, .int .i64 n.func, .slice aa al ac, .int .i64 n.err, .int .i64 n.val, .int .i64 n.vep, .slice ma ml mc] by rw [hV]; exact BoxL.new w _ 31)
  have HB := hide (show Below w.heap.size w V by rw [hV]; exact below_new w _)
  have HV := hide hV
  clear hV
  go_enter Try.func5, Try.ntmps5
  go_wp2_with (first
    | (go_at_call 9; go_must (rw [← HV.out]; (with_reducible refine (alive_any V).mono ?_); rintro e w1 ⟨rfl, hb1⟩; have HX1 := hide (HX.out.below hb1); have HB1 := hide (HB.out.trans (hb1.mono HB.out.size)); obtain ⟨k0, k1, k2, k3, k4, k5, k6, k7, k8, k9, k10⟩ := HX1.out.c11; clear hb1))
    | (go_at_call 10; go_must ((with_reducible refine (CB.out w1).mono ?_); rintro e w2 ⟨rfl, hb2⟩; have HX2 := hide (HX1.out.below hb2); have HB2 := hide (HB1.out.trans (hb2.mono HB1.out.size)); clear k0 k1 k2 k3 k4 k5 k6 k7 k8 k9 k10; obtain ⟨g0, g1, g2, g3, g4, g5, g6, g7, g8, g9, g10⟩ := HX2.out.c11; clear hb2))
    | (go_at_call 12; go_must ((with_reducible refine (CP.out _ HB2.out).mono ?_); rintro e w3 ⟨rfl, hb3⟩; have HB3 := hide (HB2.out.trans (hb3.mono HB2.out.size)))))
  go_ret
  exact ⟨rfl, HB3.out⟩

set_option maxRecDepth 100000 in
set_option maxHeartbeats 16000000 in
theorem main_e (n : No) (s : ByteArray) (aa ma : Option Addr) (al ac ml mc : Nat) (t : Int) (ra : Option Addr) (rl rc : Nat) (w : World) (ys : List Nat) (q : Small s al ml) (o : ArgN w n s aa al ac ma ml mc) (hm : mayN (clearN n) = true) (k : Nat) (ht : t = (k : Int)) (hr : rl ≤ 50) (hyl : ys.length = rl) (hyB : Byt ys) (hyn : ra = none → rl = 0 ∧ rc = 0) (hyr : Reads w ra (bV ys)) (hre : rl = 0) : Calls Try.prog 5 #[.agg #[.int .i64 n.kind, .int .i64 n.node, .int .i64 n.life, .int .i64 n.epoch, .string s, .int .i64 n.func, .slice aa al ac, .int .i64 n.err, .int .i64 n.val, .int .i64 n.vep, .slice ma ml mc], .int .i64 t, .slice ra rl rc] w fun e w' => e = .returned (.bool true) ∧ Below w.heap.size w w' := by
  subst ht
  have CB := hide (fun W => big_no n.kind n.node n.life n.epoch s n.func aa al ac n.err n.val n.vep ma ml mc W q.1 q.2.1 q.2.2)
  have CP := hide (fun W (hb : Below w.heap.size w W) => rpackQ n s (.slice aa al ac) (.slice ma ml mc) 0 W ((small_mem o q).below hb) o.inn hm)
  simp only [Nv] at CP
  obtain ⟨hN, hB, h10, h0⟩ := note_facts q o hm
  generalize encN (clearN n) = Z at CP hN hB h10 h0
  generalize clearN n = nn at hN hm
  have hr2 : (rl : Int) ≤ 50 := by omega
  have HYL := hide hyl
  have HYB := hide hyB
  have HYN := hide hyn
  have HYR := hide hyr
  have HBZ := hide hB
  have HN := hide hN
  have HE := hide hre
  have hre2 : ((rl : Int) == 0) = true := by rw [hre]; rfl
  clear q o hm hyl hyB hyn hyr hB hN hre
  obtain ⟨V, hV⟩ : ∃ V, V = w.alloc (.cells #[.int .i64 n.kind, .int .i64 n.node, .int .i64 n.life, .int .i64 n.epoch, .string s, .int .i64 n.func, .slice aa al ac, .int .i64 n.err, .int .i64 n.val, .int .i64 n.vep, .slice ma ml mc] 31) := ⟨_, rfl⟩
  have HX := hide (show BoxL V w.heap.size [.int .i64 n.kind, .int .i64 n.node, .int .i64 n.life, .int .i64 n.epoch, .string s, .int .i64 n.func, .slice aa al ac, .int .i64 n.err, .int .i64 n.val, .int .i64 n.vep, .slice ma ml mc] by rw [hV]; exact BoxL.new w _ 31)
  have HB := hide (show Below w.heap.size w V by rw [hV]; exact below_new w _)
  have HV := hide hV
  clear hV
  go_enter Try.func5, Try.ntmps5
  go_wp2_with (first
    | (go_at_call 9; go_must (rw [← HV.out]; (with_reducible refine (alive_any V).mono ?_); rintro e w1 ⟨rfl, hb1⟩; have HX1 := hide (HX.out.below hb1); have HB1 := hide (HB.out.trans (hb1.mono HB.out.size)); obtain ⟨k0, k1, k2, k3, k4, k5, k6, k7, k8, k9, k10⟩ := HX1.out.c11; clear hb1))
    | (go_at_call 10; go_must ((with_reducible refine (CB.out w1).mono ?_); rintro e w2 ⟨rfl, hb2⟩; have HX2 := hide (HX1.out.below hb2); have HB2 := hide (HB1.out.trans (hb2.mono HB1.out.size)); clear k0 k1 k2 k3 k4 k5 k6 k7 k8 k9 k10; obtain ⟨g0, g1, g2, g3, g4, g5, g6, g7, g8, g9, g10⟩ := HX2.out.c11; clear hb2))
    | (go_at_call 12; go_must ((with_reducible refine (CP.out _ HB2.out).mono ?_); rintro e w3 ⟨a3, m3, c3, rfl, hm3, hc3, hn3, hr3, hb3⟩; have HB3 := hide (HB2.out.trans (hb3.mono HB2.out.size)); have hm3' : 0 < m3 := (by have := hm3.out; omega); have hm3i : (m3 : Int) ≠ 0 := (by omega); have hm310 : m3 ≤ 10000 := (by have := hm3.out; omega); obtain ⟨r, hr'⟩ : ∃ r, r = k % m3 := ⟨_, rfl⟩; have hrem : (k : Int) % (m3 : Int) = (r : Int) := (by rw [hr']; simp); have hrlt : r < m3 := (by rw [hr']; exact Nat.mod_lt _ hm3'); have ks := (fun W => slice_b W a3 m3 c3 r (by have := hc3.out.1; omega)); have C17 := hide (readN (Z.take r) a3 r c3 w3 (by rw [List.length_take, hm3.out]; omega) (by omega) (fun x hx => HBZ.out x (List.mem_of_mem_take hx)) (hr3.out.take r) (cut_no HBZ.out HN.out (by rw [hm3.out]; exact hrlt))); clear hr' hb3))
    | (go_at_call 13; go_must ((with_reducible refine (lnum_any _ _).mono ?_); rintro e wz ⟨rfl, rfl⟩))
    | (at_builtin; (refine append_bytes rfl (.const (.slice none 0 0)) (.tmp 51) rfl w4.heap.size (.slice none 0 0) 0 [] rfl (World.ownsRow_nil _ _ _ _) a3 m3 c3 Z rfl hn3.out hm3.out HR4.out (by omega) (by simp) ?_; intro v5 w5 ho5 hg5 _; rw [Nat.zero_add, List.nil_append] at ho5; have hb5 := below_of hg5; have HO5 := hide ho5; obtain ⟨a5, c5, rfl, -⟩ := own_slice ho5; have HB5 := hide (HB4.out.trans (hb5.mono HB4.out.size)); have HS5 := hide hb5.size; clear ho5 hg5 hb5))
    | (at_builtin; (refine append_bytes rfl (.tmp 52) (.tmp 53) rfl w4.heap.size (.slice a5 m3 c5) m3 Z rfl HO5.out ra rl rc ys rfl HYN.out HYL.out (HYR.out.below HB5.out) (by omega) (by have h := HS5.out; simp at h; omega) ?_; intro v6 w6 ho6 hg6 _; have HB6 := hide (HB5.out.grown hg6 HB5.out.size (fun q hq => by have h1 := (HO5.out.lt q hq).1; have h2 := HW4.out; omega)); obtain ⟨a6, c6, rfl, -⟩ := own_slice ho6; obtain ⟨b6, l6, d6, e6, hr6⟩ := reads_of6 ho6; simp only [Value.slice.injEq] at e6; obtain ⟨rfl, rfl, rfl⟩ := e6; have C17b := hide (readQ nn (Z ++ ys) a6 (m3 + rl) c6 w6 (by rw [List.length_append, hm3.out, HYL.out]) (by omega) (HBZ.out.append HYB.out) hr6 (by rw [List.eq_nil_of_length_eq_zero (HYL.out.trans HE.out), List.append_nil]; exact HN.out)); clear ho6 hg6))
    | (go_at_call 17; ((with_reducible refine C17b.out.mono ?_); rintro e w7 ⟨s7, aa7, al7, ac7, ma7, ml7, mc7, rfl, -, hb7⟩; simp only [Nv]; have HB7 := hide ((HB6.out.trans (hb7.mono HB6.out.size)).alloc (by have h1 := HB6.out.size; have h2 := hb7.size; omega) (.cells #[.int .i64 nn.kind, .int .i64 nn.node, .int .i64 nn.life, .int .i64 nn.epoch, .string s7, .int .i64 nn.func, .slice aa7 al7 ac7, .int .i64 nn.err, .int .i64 nn.val, .int .i64 nn.vep, .slice ma7 ml7 mc7] 31)); clear hb7))
    | (go_at_call 17; go_must ((with_reducible refine C17.out.mono ?_); rintro e w4 ⟨rfl, hb4⟩; simp only [Nv, no0]; have HW4 := hide (Nat.le_trans HB3.out.size hb4.size); have HB4 := hide ((HB3.out.trans (hb4.mono HB3.out.size)).alloc (by have h1 := HB3.out.size; have h2 := hb4.size; omega) (.cells #[.int .i64 0, .int .i64 0, .int .i64 0, .int .i64 0, .string ⟨#[]⟩, .int .i64 0, .slice none 0 0, .int .i64 0, .int .i64 0, .int .i64 0, .slice none 0 0] 31)); have HR4 := hide ((hr3.out.below hb4).below (below_new w4 (.cells #[.int .i64 0, .int .i64 0, .int .i64 0, .int .i64 0, .string ⟨#[]⟩, .int .i64 0, .slice none 0 0, .int .i64 0, .int .i64 0, .int .i64 0, .slice none 0 0] 31))); clear hb4)))
  go_ret
  exact ⟨rfl, HB7.out⟩

set_option maxRecDepth 100000 in
set_option maxHeartbeats 16000000 in
theorem main_m (n : No) (s : ByteArray) (aa ma : Option Addr) (al ac ml mc : Nat) (t : Int) (ra : Option Addr) (rl rc : Nat) (w : World) (ys : List Nat) (q : Small s al ml) (o : ArgN w n s aa al ac ma ml mc) (hm : mayN (clearN n) = true) (k : Nat) (ht : t = (k : Int)) (hr : rl ≤ 50) (hyl : ys.length = rl) (hyB : Byt ys) (hyn : ra = none → rl = 0 ∧ rc = 0) (hyr : Reads w ra (bV ys)) (hre : rl ≠ 0) : Calls Try.prog 5 #[.agg #[.int .i64 n.kind, .int .i64 n.node, .int .i64 n.life, .int .i64 n.epoch, .string s, .int .i64 n.func, .slice aa al ac, .int .i64 n.err, .int .i64 n.val, .int .i64 n.vep, .slice ma ml mc], .int .i64 t, .slice ra rl rc] w fun e w' => e = .returned (.bool true) ∧ Below w.heap.size w w' := by
  subst ht
  have CB := hide (fun W => big_no n.kind n.node n.life n.epoch s n.func aa al ac n.err n.val n.vep ma ml mc W q.1 q.2.1 q.2.2)
  have CP := hide (fun W (hb : Below w.heap.size w W) => rpackQ n s (.slice aa al ac) (.slice ma ml mc) 0 W ((small_mem o q).below hb) o.inn hm)
  simp only [Nv] at CP
  obtain ⟨hN, hB, h10, h0⟩ := note_facts q o hm
  generalize encN (clearN n) = Z at CP hN hB h10 h0
  generalize clearN n = nn at hN hm
  have hr2 : (rl : Int) ≤ 50 := by omega
  have HYL := hide hyl
  have HYB := hide hyB
  have HYN := hide hyn
  have HYR := hide hyr
  have HBZ := hide hB
  have HN := hide hN
  have HE := hide (show ys ≠ [] from fun e => hre (by rw [← hyl, e]; rfl))
  have hre2 : ((rl : Int) == 0) = false := by rw [beq_eq_false_iff_ne]; omega
  clear q o hm hyl hyB hyn hyr hB hN hre
  obtain ⟨V, hV⟩ : ∃ V, V = w.alloc (.cells #[.int .i64 n.kind, .int .i64 n.node, .int .i64 n.life, .int .i64 n.epoch, .string s, .int .i64 n.func, .slice aa al ac, .int .i64 n.err, .int .i64 n.val, .int .i64 n.vep, .slice ma ml mc] 31) := ⟨_, rfl⟩
  have HX := hide (show BoxL V w.heap.size [.int .i64 n.kind, .int .i64 n.node, .int .i64 n.life, .int .i64 n.epoch, .string s, .int .i64 n.func, .slice aa al ac, .int .i64 n.err, .int .i64 n.val, .int .i64 n.vep, .slice ma ml mc] by rw [hV]; exact BoxL.new w _ 31)
  have HB := hide (show Below w.heap.size w V by rw [hV]; exact below_new w _)
  have HV := hide hV
  clear hV
  go_enter Try.func5, Try.ntmps5
  go_wp2_with (first
    | (go_at_call 9; go_must (rw [← HV.out]; (with_reducible refine (alive_any V).mono ?_); rintro e w1 ⟨rfl, hb1⟩; have HX1 := hide (HX.out.below hb1); have HB1 := hide (HB.out.trans (hb1.mono HB.out.size)); obtain ⟨k0, k1, k2, k3, k4, k5, k6, k7, k8, k9, k10⟩ := HX1.out.c11; clear hb1))
    | (go_at_call 10; go_must ((with_reducible refine (CB.out w1).mono ?_); rintro e w2 ⟨rfl, hb2⟩; have HX2 := hide (HX1.out.below hb2); have HB2 := hide (HB1.out.trans (hb2.mono HB1.out.size)); clear k0 k1 k2 k3 k4 k5 k6 k7 k8 k9 k10; obtain ⟨g0, g1, g2, g3, g4, g5, g6, g7, g8, g9, g10⟩ := HX2.out.c11; clear hb2))
    | (go_at_call 12; go_must ((with_reducible refine (CP.out _ HB2.out).mono ?_); rintro e w3 ⟨a3, m3, c3, rfl, hm3, hc3, hn3, hr3, hb3⟩; have HB3 := hide (HB2.out.trans (hb3.mono HB2.out.size)); have hm3' : 0 < m3 := (by have := hm3.out; omega); have hm3i : (m3 : Int) ≠ 0 := (by omega); have hm310 : m3 ≤ 10000 := (by have := hm3.out; omega); obtain ⟨r, hr'⟩ : ∃ r, r = k % m3 := ⟨_, rfl⟩; have hrem : (k : Int) % (m3 : Int) = (r : Int) := (by rw [hr']; simp); have hrlt : r < m3 := (by rw [hr']; exact Nat.mod_lt _ hm3'); have ks := (fun W => slice_b W a3 m3 c3 r (by have := hc3.out.1; omega)); have C17 := hide (readN (Z.take r) a3 r c3 w3 (by rw [List.length_take, hm3.out]; omega) (by omega) (fun x hx => HBZ.out x (List.mem_of_mem_take hx)) (hr3.out.take r) (cut_no HBZ.out HN.out (by rw [hm3.out]; exact hrlt))); clear hr' hb3))
    | (go_at_call 13; go_must ((with_reducible refine (lnum_any _ _).mono ?_); rintro e wz ⟨rfl, rfl⟩))
    | (at_builtin; (refine append_bytes rfl (.const (.slice none 0 0)) (.tmp 51) rfl w4.heap.size (.slice none 0 0) 0 [] rfl (World.ownsRow_nil _ _ _ _) a3 m3 c3 Z rfl hn3.out hm3.out HR4.out (by omega) (by simp) ?_; intro v5 w5 ho5 hg5 _; rw [Nat.zero_add, List.nil_append] at ho5; have hb5 := below_of hg5; have HO5 := hide ho5; obtain ⟨a5, c5, rfl, -⟩ := own_slice ho5; have HB5 := hide (HB4.out.trans (hb5.mono HB4.out.size)); have HS5 := hide hb5.size; clear ho5 hg5 hb5))
    | (at_builtin; (refine append_bytes rfl (.tmp 52) (.tmp 53) rfl w4.heap.size (.slice a5 m3 c5) m3 Z rfl HO5.out ra rl rc ys rfl HYN.out HYL.out (HYR.out.below HB5.out) (by omega) (by have h := HS5.out; simp at h; omega) ?_; intro v6 w6 ho6 hg6 _; have HB6 := hide (HB5.out.grown hg6 HB5.out.size (fun q hq => by have h1 := (HO5.out.lt q hq).1; have h2 := HW4.out; omega)); obtain ⟨a6, c6, rfl, -⟩ := own_slice ho6; obtain ⟨b6, l6, d6, e6, hr6⟩ := reads_of6 ho6; simp only [Value.slice.injEq] at e6; obtain ⟨rfl, rfl, rfl⟩ := e6; have C17b := hide (readN (Z ++ ys) a6 (m3 + rl) c6 w6 (by rw [List.length_append, hm3.out, HYL.out]) (by omega) (HBZ.out.append HYB.out) hr6 (more_no (HBZ.out.append HYB.out) HN.out HE.out)); clear ho6 hg6))
    | (go_at_call 17; ((with_reducible refine C17b.out.mono ?_); rintro e w7 ⟨rfl, hb7⟩; simp only [Nv, no0]; have HB7 := hide ((HB6.out.trans (hb7.mono HB6.out.size)).alloc (by have h1 := HB6.out.size; have h2 := hb7.size; omega) (.cells #[.int .i64 0, .int .i64 0, .int .i64 0, .int .i64 0, .string ⟨#[]⟩, .int .i64 0, .slice none 0 0, .int .i64 0, .int .i64 0, .int .i64 0, .slice none 0 0] 31)); clear hb7))
    | (go_at_call 17; go_must ((with_reducible refine C17.out.mono ?_); rintro e w4 ⟨rfl, hb4⟩; simp only [Nv, no0]; have HW4 := hide (Nat.le_trans HB3.out.size hb4.size); have HB4 := hide ((HB3.out.trans (hb4.mono HB3.out.size)).alloc (by have h1 := HB3.out.size; have h2 := hb4.size; omega) (.cells #[.int .i64 0, .int .i64 0, .int .i64 0, .int .i64 0, .string ⟨#[]⟩, .int .i64 0, .slice none 0 0, .int .i64 0, .int .i64 0, .int .i64 0, .slice none 0 0] 31)); have HR4 := hide ((hr3.out.below hb4).below (below_new w4 (.cells #[.int .i64 0, .int .i64 0, .int .i64 0, .int .i64 0, .string ⟨#[]⟩, .int .i64 0, .slice none 0 0, .int .i64 0, .int .i64 0, .int .i64 0, .slice none 0 0] 31))); clear hb4)))
  go_ret
  exact ⟨rfl, HB7.out⟩

theorem walk (n : No) (s : ByteArray) (aa : Option Addr) (al ac : Nat) (ma : Option Addr) (ml mc : Nat) (t : Int) (ra : Option Addr) (rl rc : Nat) (ys : List Nat) (w : World) (o : ArgN w n s aa al ac ma ml mc) (_ht : -9223372036854775808 ≤ t ∧ t ≤ 9223372036854775807) (hyl : ys.length = rl) (hyB : Byt ys) (_hc : rl ≤ rc) (_hm : rc ≤ maxLen) (hyn : ra = none → rl = 0 ∧ rc = 0) (hyr : Reads w ra (bV ys)) : Calls Try.prog 5 #[Nv n s (.slice aa al ac) (.slice ma ml mc), .int .i64 t, .slice ra rl rc] w fun e w' => e = .returned (.bool true) ∧ Below w.heap.size w w' := by
  by_cases hq : Small s al ml
  · by_cases ht : 0 ≤ t
    · by_cases hr : rl ≤ 50
      · by_cases hm : mayN (clearN n) = true
        · by_cases he : rl = 0
          · exact main_e n s aa ma al ac ml mc t ra rl rc w ys hq o hm t.toNat (by omega) hr hyl hyB hyn hyr he
          · exact main_m n s aa ma al ac ml mc t ra rl rc w ys hq o hm t.toNat (by omega) hr hyl hyB hyn hyr he
        · exact none_no n s aa ma al ac ml mc t ra rl rc w hq o (by simpa using hm) ht hr
      · exact skip3 n s aa ma al ac ml mc t ra rl rc w hq ht (by omega)
    · exact skip2 n s aa ma al ac ml mc t ra rl rc w hq (by omega)
  · exact skip1 n s aa ma al ac ml mc t ra rl rc w o.hsz (by unfold Small at hq; omega)
end noteCuts
end Go.Proofs.Ytgkpioleipefmaa
