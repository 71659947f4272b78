/- A note while it is read. -/
import Derived.Test.YtgkpioleipefmaaNoK
namespace Go.Proofs.Ytgkpioleipefmaa
open Go.RowKit Go.ChangeShapes Go.WideShapes Go.ChangeAt Go.Deep

theorem run_strT {t : TypeId} (ht : Try.prog.underlying t = some .string) (w : World) (a : Option Addr) (m cap : Nat) (xs : List Nat) (hm : xs.length = m) (h : Reads w a (bV xs)) :
    (convert 34 t (.slice a m cap)).run Try.prog w = .ok (.string (bstr xs)) w := by
  subst hm
  rcases h with h | ⟨b, off, rfl, hc⟩
  · have : xs = [] := by simpa [bV] using h
    subst this
    cases a with
    | none => exact run_convert_bytes_nil w 34 5 Try.underlying34 Try.underlying5 0 cap t ht
    | some ad =>
      have hl : (loadCells ad 0).run Try.prog w = .ok (([] : List Int).map (Value.int .u8)).toArray w := by
        simpa using run_loadCells_list (P := Try.prog) w ad [] (by simp)
      show (convert 34 t (.slice (some ad) 0 cap)).run Try.prog w = _
      rw [run_convert_bytes_string w 34 t 5 _ 0 cap Try.underlying34 Try.underlying5 ht, run_bytesToString w ad 0 cap [] hl]
      rfl
  · exact run_convert_bytes_arg w 34 5 Try.underlying34 Try.underlying5 b off xs.length cap (xs.map fun (x : Nat) => (x : Int)) (by simp) (fun i hi => hc i _ (by simp [bV, List.getD, hi])) t ht
theorem bstr_uN {l : List Nat} (h : Byt l) : uN (bstr l).data.toList = l := by
  have := bstr_nums h
  rw [ByteArray.toList_eq] at this
  exact this
theorem bstr_size {l : List Nat} (h : Byt l) : (bstr l).size = l.length := by
  have := congrArg List.length (bstr_uN h)
  simpa [uN] using this

theorem rdBytes_le (bs : List Nat) (bad : Bool) : (rdBytes bs bad).1.length ≤ bs.length ∧ (rdBytes bs bad).2.1.length ≤ bs.length := by
  have h1 := rdCnt_len bs bad
  rw [rdBytes_cnt]
  simp only [List.length_take, List.length_drop]
  omega
theorem rdMany_le (k : Nat) (s : List Nat × Bool) : (rdMany k s).1.length ≤ k ∧ (rdMany k s).2.1.length ≤ s.1.length := by
  induction k generalizing s with
  | zero => simp [rdMany]
  | succ k ih =>
    obtain ⟨bs, b⟩ := s
    cases b with
    | true => simp [rdMany]
    | false =>
      have h1 := ih (rdInt bs false).2
      have h2 := rdInt_len bs false
      rw [rdMany_go]
      simp only [List.length_cons]
      omega
theorem rdMem_le (k : Nat) (s : List Nat × Bool) : (rdMem k s).1.length ≤ k ∧ (rdMem k s).2.1.length ≤ s.1.length := by
  induction k generalizing s with
  | zero => simp [rdMem]
  | succ k ih =>
    obtain ⟨bs, b⟩ := s
    cases b with
    | true => simp [rdMem]
    | false =>
      have h1 := ih (rdInt (rdInt bs false).2.1 (rdInt bs false).2.2).2
      have h2 := rdInt_len bs false
      have h3 := rdInt_len (rdInt bs false).2.1 (rdInt bs false).2.2
      rw [rdMem_go]
      simp only [List.length_cons]
      omega
theorem rdLi_le (s : List Nat × Bool) : (rdLi s).1.length ≤ s.1.length ∧ (rdLi s).2.1.length ≤ s.1.length := by
  have h1 := rdMany_le (rdCnt s.1 s.2).1 (rdCnt s.1 s.2).2
  have h2 := rdCnt_le s.1 s.2
  have h3 := rdCnt_len s.1 s.2
  unfold rdLi
  simp only
  split
  · simp only [List.length_nil]; omega
  · omega
theorem rdLm_le (s : List Nat × Bool) : (rdLm s).1.length ≤ s.1.length ∧ (rdLm s).2.1.length ≤ s.1.length := by
  have h1 := rdMem_le (rdCnt s.1 s.2).1 (rdCnt s.1 s.2).2
  have h2 := rdCnt_le s.1 s.2
  have h3 := rdCnt_len s.1 s.2
  unfold rdLm
  simp only
  split
  · simp only [List.length_nil]; omega
  · omega
theorem Cur.byt {w : World} {B T c : Nat} {bs : List Nat} {bad : Bool} (h : Cur w B T c bs bad) : Byt bs := by
  obtain ⟨a, cap, _, _, _, _, _, _, h7, _⟩ := h
  exact h7

/-- What view answers. -/
def ViewPost (B T c : Nat) (bs : List Nat) (bad : Bool) (w : World) (e : Ending) (w' : World) : Prop :=
  ∃ mv, e = .returned (.agg #[.int .i64 (rdInt bs bad).1, mv]) ∧ w'.ownsRow w.heap.size 50 2 mv (rdLm (rdInt bs bad).2).1.length (mV (rdLm (rdInt bs bad).2).1) ∧ Cur w' B T c (rdLm (rdInt bs bad).2).2.1 (rdLm (rdInt bs bad).2).2.2 ∧ w.grownBy w' (some c)
set_option maxRecDepth 100000 in
set_option maxHeartbeats 8000000 in
/-- reader.view. -/
theorem view_any (B T c : Nat) (bs : List Nat) (bad : Bool) (w : World) (h : Cur w B T c bs bad) (hlen : bs.length ≤ 1000000) :
    Calls Try.prog 52 #[.agg #[.pointer (some ⟨c, 0, none⟩)]] w (ViewPost B T c bs bad w) := by
  have hT := h.hi
  have K1 := hide (fun W hW => curInt_any B T c bs bad W hW)
  have hil := rdInt_len bs bad
  unfold ViewPost
  obtain ⟨⟨n1, r1, b1⟩, e1⟩ : ∃ z, rdInt bs bad = z := ⟨_, rfl⟩
  rw [e1] at K1 hil ⊢
  simp only at hil K1
  have K2 := hide (fun W hW => listM_any B T c r1 b1 W hW (by omega))
  unfold listMPost at K2
  simp only
  obtain ⟨⟨l2, r2, b2⟩, e2⟩ : ∃ z, rdLm (r1, b1) = z := ⟨_, rfl⟩
  rw [e2] at K2 ⊢
  clear e1 e2
  simp only at K2 ⊢
  have hgc0 : w.heap.size ≠ c := by omega
  have hgc1 : w.heap.size + 1 ≠ c := by omega
  obtain ⟨hx1, hx2, hx3, hx4⟩ := box2 w [.pointer (some ⟨c, 0, none⟩)] [.int .i64 0, .slice none 0 0] 65 29
  obtain ⟨V, hV⟩ : ∃ V, V = (w.alloc (.cells #[.pointer (some ⟨c, 0, none⟩)] 65)).alloc (.cells #[.int .i64 0, .slice none 0 0] 29) := ⟨_, rfl⟩
  have HX0 := hide (show BoxL V w.heap.size [.pointer (some ⟨c, 0, none⟩)] by rw [hV]; exact hx1)
  have HY0 := hide (show BoxL V (w.heap.size + 1) [.int .i64 0, .slice none 0 0] by rw [hV]; exact hx2)
  have HB0 := hide (show Below w.heap.size w V by rw [hV]; exact hx3)
  have HS0 := hide (show V.heap.size = w.heap.size + 2 by rw [hV]; exact hx4)
  have HC0 := hide (h.below HB0.out)
  have HTs := hide (show T ≤ w.heap.size + 1 by omega)
  have HV := hide hV
  clear hx1 hx2 hx3 hx4 hV hT h
  go_enter Try.func52, Try.ntmps52
  go_wp2_with (first
    | (go_at_call 48; go_must (rw [← HV.out]; (with_reducible refine (K1.out V HC0.out).mono ?_); rintro e w1 ⟨rfl, hC1, hg1⟩; have HX1 := hide (HX0.out.grown hg1 hgc0); have HY1 := hide (HY0.out.grown hg1 hgc1); have HG1 := hide (grown_trans (grown_of HB0.out) hg1); have q1 := HX1.out.c1; obtain ⟨⟨c0, d0⟩, ⟨c1, d1⟩⟩ := HY1.out.c2; have HSZ1 := hide (Nat.le_trans (Nat.le_of_eq HS0.out.symm) hg1.size)))
    | (go_at_call 61; go_must ((with_reducible refine (K2.out _ (hC1.put (o := 0) (v := .int .i64 n1) HTs.out)).mono ?_); rintro e w2 ⟨v2, rfl, ho2, hC2, hg2⟩; have HY2 := hide (show BoxL w2 (w.heap.size + 1) [.int .i64 n1, .slice none 0 0] from (HY1.out.put 0 (.int .i64 n1)).grown hg2 hgc1); have HG2 := hide (grown_trans (grown_put (g := w.heap.size + 1) (o := 0) (v := .int .i64 n1) HG1.out (Nat.le_succ _)) hg2); obtain ⟨⟨s0, t0⟩, ⟨s1, t1⟩⟩ := HY2.out.c2; have HO2 := hide (owng_mono (b' := w.heap.size + 2) ho2 (by simpa [World.setCell] using HSZ1.out)); obtain ⟨a2, c2, rfl⟩ := own_open ho2)))
  have HY3 := hide (show BoxL (((w2.setCell ⟨w.heap.size + 1, 1, none⟩ (.slice a2 l2.length c2)).setCell ⟨w.heap.size + 1, 0, none⟩ (.int .i64 n1)).setCell ⟨w.heap.size + 1, 1, none⟩ (.slice a2 l2.length c2)) (w.heap.size + 1) [.int .i64 n1, .slice a2 l2.length c2] from ((HY2.out.put 1 (.slice a2 l2.length c2)).put 0 (.int .i64 n1)).put 1 (.slice a2 l2.length c2))
  have HG3 := hide (grown_put (g := w.heap.size + 1) (o := 1) (v := .slice a2 l2.length c2) (grown_put (g := w.heap.size + 1) (o := 0) (v := .int .i64 n1) (grown_put (g := w.heap.size + 1) (o := 1) (v := .slice a2 l2.length c2) HG2.out (Nat.le_succ _)) (Nat.le_succ _)) (Nat.le_succ _))
  have HC3 := hide (Cur.put (g := w.heap.size + 1) (o := 1) (v := .slice a2 l2.length c2) (Cur.put (g := w.heap.size + 1) (o := 0) (v := .int .i64 n1) (Cur.put (g := w.heap.size + 1) (o := 1) (v := .slice a2 l2.length c2) hC2 HTs.out) HTs.out) HTs.out)
  have HO3 := hide (owng_put_lo (g := w.heap.size + 1) (o := 1) (u := .slice a2 l2.length c2) (owng_put_lo (g := w.heap.size + 1) (o := 0) (u := .int .i64 n1) (owng_put_lo (g := w.heap.size + 1) (o := 1) (u := .slice a2 l2.length c2) HO2.out (by omega)) (by omega)) (by omega))
  obtain ⟨X, hX⟩ : ∃ X, X = (((w2.setCell ⟨w.heap.size + 1, 1, none⟩ (.slice a2 l2.length c2)).setCell ⟨w.heap.size + 1, 0, none⟩ (.int .i64 n1)).setCell ⟨w.heap.size + 1, 1, none⟩ (.slice a2 l2.length c2)) := ⟨_, rfl⟩
  rw [← hX] at HY3 HG3 HC3 HO3
  rw [← hX]
  clear hX
  obtain ⟨⟨x0, -⟩, ⟨x1, -⟩⟩ := HY3.out.c2
  refine bodyPost_ret (v := .agg #[.int .i64 n1, .slice a2 l2.length c2]) (by simp [results, Try.results52, go_sem, x0, x1]) rfl ?_
  exact ⟨_, rfl, owng_mono HO3.out (by omega), HC3.out, HG3.out⟩

/-- The world while a note is read: its reader's box, its own. -/
def NI (B T c : Nat) (w : World) (x : No × List Nat × Bool) (wr : World) : Prop :=
  (w.grownBy wr (some c) ∧ c < w.heap.size ∧ T ≤ w.heap.size ∧ w.heap.size + 2 ≤ wr.heap.size ∧ x.2.1.length ≤ 20000) ∧ Cur wr B T c x.2.1 x.2.2 ∧ BoxL wr w.heap.size [.pointer (some ⟨c, 0, none⟩)] ∧
    ∃ s aa al ac ma ml mc, BoxL wr (w.heap.size + 1) (Nc x.1 s (.slice aa al ac) (.slice ma ml mc)) ∧ NM (w.heap.size + 2) wr x.1 s (.slice aa al ac) (.slice ma ml mc)
theorem keep_grown {w wr w2 : World} {c : Nat} (hc : c < w.heap.size) (hg : wr.grownBy w2 (some c)) : ∀ k, w.heap.size + 2 ≤ k → k < wr.heap.size → w2.heap[k]? = wr.heap[k]? :=
  fun k h1 h2 => hg.block k h2 (fun e => by simp at e; omega)
theorem keep_put {w wr : World} {o : Nat} {v : Value} : ∀ k, w.heap.size + 2 ≤ k → k < wr.heap.size → (wr.setCell ⟨w.heap.size + 1, o, none⟩ v).heap[k]? = wr.heap[k]? :=
  fun k h1 _ => Below.heap_setCell _ _ _ _ (by show k ≠ w.heap.size + 1; omega)
theorem NI.adv {B T c : Nat} {w : World} {o : No} {bs bs' : List Nat} {b b' : Bool} {wr w2 : World} (h : NI B T c w (o, bs, b) wr) (hC : Cur w2 B T c bs' b') (hg : wr.grownBy w2 (some c)) (hl : bs'.length ≤ 20000) : NI B T c w (o, bs', b') w2 := by
  obtain ⟨⟨h1, h2, h3, h4, _⟩, h6, h7, s, aa, al, ac, ma, ml, mc, h8, h9⟩ := h
  exact ⟨⟨grown_trans h1 hg, h2, h3, Nat.le_trans h4 hg.size, hl⟩, hC, h7.grown hg (by omega), s, aa, al, ac, ma, ml, mc, h8.grown hg (by omega), h9.keep (keep_grown h2 hg)⟩

theorem NI.kind {B T c : Nat} {w : World} {o : No} {s : List Nat × Bool} {wr : World} (h : NI B T c w (o, s) wr) (x : Int) : NI B T c w ({ o with kind := x }, s) (wr.setCell ⟨w.heap.size + 1, 0, none⟩ (.int .i64 x)) := by
  obtain ⟨⟨h1, h2, h3, h4, h5⟩, h6, h7, s, aa, al, ac, ma, ml, mc, h8, h9⟩ := h
  exact ⟨⟨(grown_put h1 (by omega)), h2, h3, by simpa [World.setCell] using h4, h5⟩, (Cur.put h6 (by omega)), (box_other h7 (by omega)), s, aa, al, ac, ma, ml, mc, (h8.put 0 (.int .i64 x)), (NM.keep h9 (keep_put (w := w) (o := 0) (v := (.int .i64 x))))⟩
theorem NI.node {B T c : Nat} {w : World} {o : No} {s : List Nat × Bool} {wr : World} (h : NI B T c w (o, s) wr) (x : Int) : NI B T c w ({ o with node := x }, s) (wr.setCell ⟨w.heap.size + 1, 1, none⟩ (.int .i64 x)) := by
  obtain ⟨⟨h1, h2, h3, h4, h5⟩, h6, h7, s, aa, al, ac, ma, ml, mc, h8, h9⟩ := h
  exact ⟨⟨(grown_put h1 (by omega)), h2, h3, by simpa [World.setCell] using h4, h5⟩, (Cur.put h6 (by omega)), (box_other h7 (by omega)), s, aa, al, ac, ma, ml, mc, (h8.put 1 (.int .i64 x)), (NM.keep h9 (keep_put (w := w) (o := 1) (v := (.int .i64 x))))⟩
theorem NI.life {B T c : Nat} {w : World} {o : No} {s : List Nat × Bool} {wr : World} (h : NI B T c w (o, s) wr) (x : Int) : NI B T c w ({ o with life := x }, s) (wr.setCell ⟨w.heap.size + 1, 2, none⟩ (.int .i64 x)) := by
  obtain ⟨⟨h1, h2, h3, h4, h5⟩, h6, h7, s, aa, al, ac, ma, ml, mc, h8, h9⟩ := h
  exact ⟨⟨(grown_put h1 (by omega)), h2, h3, by simpa [World.setCell] using h4, h5⟩, (Cur.put h6 (by omega)), (box_other h7 (by omega)), s, aa, al, ac, ma, ml, mc, (h8.put 2 (.int .i64 x)), (NM.keep h9 (keep_put (w := w) (o := 2) (v := (.int .i64 x))))⟩
theorem NI.epoch {B T c : Nat} {w : World} {o : No} {s : List Nat × Bool} {wr : World} (h : NI B T c w (o, s) wr) (x : Int) : NI B T c w ({ o with epoch := x }, s) (wr.setCell ⟨w.heap.size + 1, 3, none⟩ (.int .i64 x)) := by
  obtain ⟨⟨h1, h2, h3, h4, h5⟩, h6, h7, s, aa, al, ac, ma, ml, mc, h8, h9⟩ := h
  exact ⟨⟨(grown_put h1 (by omega)), h2, h3, by simpa [World.setCell] using h4, h5⟩, (Cur.put h6 (by omega)), (box_other h7 (by omega)), s, aa, al, ac, ma, ml, mc, (h8.put 3 (.int .i64 x)), (NM.keep h9 (keep_put (w := w) (o := 3) (v := (.int .i64 x))))⟩
theorem NI.func {B T c : Nat} {w : World} {o : No} {s : List Nat × Bool} {wr : World} (h : NI B T c w (o, s) wr) (x : Int) : NI B T c w ({ o with func := x }, s) (wr.setCell ⟨w.heap.size + 1, 5, none⟩ (.int .i64 x)) := by
  obtain ⟨⟨h1, h2, h3, h4, h5⟩, h6, h7, s, aa, al, ac, ma, ml, mc, h8, h9⟩ := h
  exact ⟨⟨(grown_put h1 (by omega)), h2, h3, by simpa [World.setCell] using h4, h5⟩, (Cur.put h6 (by omega)), (box_other h7 (by omega)), s, aa, al, ac, ma, ml, mc, (h8.put 5 (.int .i64 x)), (NM.keep h9 (keep_put (w := w) (o := 5) (v := (.int .i64 x))))⟩
theorem NI.res {B T c : Nat} {w : World} {o : No} {s : List Nat × Bool} {wr : World} (h : NI B T c w (o, s) wr) (x y : Int) : NI B T c w ({ o with err := x, val := y }, s) ((wr.setCell ⟨w.heap.size + 1, 7, none⟩ (.int .i64 x)).setCell ⟨w.heap.size + 1, 8, none⟩ (.int .i64 y)) := by
  obtain ⟨⟨h1, h2, h3, h4, h5⟩, h6, h7, s, aa, al, ac, ma, ml, mc, h8, h9⟩ := h
  exact ⟨⟨(grown_put (grown_put h1 (by omega)) (by omega)), h2, h3, by simpa [World.setCell] using h4, h5⟩, (Cur.put (Cur.put h6 (by omega)) (by omega)), (box_other (box_other h7 (by omega)) (by omega)), s, aa, al, ac, ma, ml, mc, ((h8.put 7 (.int .i64 x)).put 8 (.int .i64 y)), (NM.keep (NM.keep h9 (keep_put (w := w) (o := 7) (v := (.int .i64 x)))) (keep_put (w := w) (o := 8) (v := (.int .i64 y))))⟩
theorem NI.id {B T c : Nat} {w : World} {o : No} {s : List Nat × Bool} {wr : World} (h : NI B T c w (o, s) wr) (t : ByteArray) (l : List Nat) (ht : t.size ≤ 20000) (hid : uN t.data.toList = l) : NI B T c w ({ o with id := l }, s) (wr.setCell ⟨w.heap.size + 1, 4, none⟩ (.string t)) := by
  obtain ⟨⟨h1, h2, h3, h4, h5⟩, h6, h7, s, aa, al, ac, ma, ml, mc, h8, h9⟩ := h
  have k := (NM.keep h9 (keep_put (w := w) (o := 4) (v := (.string t))))
  exact ⟨⟨(grown_put h1 (by omega)), h2, h3, by simpa [World.setCell] using h4, h5⟩, (Cur.put h6 (by omega)), (box_other h7 (by omega)), t, aa, al, ac, ma, ml, mc, (h8.put 4 (.string t)), hid, ht, k.2.2⟩
theorem NI.args {B T c : Nat} {w : World} {o : No} {s : List Nat × Bool} {wr : World} {a : Option Addr} {l k : Nat} (h : NI B T c w (o, s) wr) (xs : List Int) (hl : xs.length ≤ 20000) (hr : RowV (w.heap.size + 2) wr (.slice a l k) xs.length (iV xs)) : NI B T c w ({ o with args := xs }, s) (wr.setCell ⟨w.heap.size + 1, 6, none⟩ (.slice a l k)) := by
  obtain ⟨⟨h1, h2, h3, h4, h5⟩, h6, h7, s, aa, al, ac, ma, ml, mc, h8, h9⟩ := h
  have q := (NM.keep h9 (keep_put (w := w) (o := 6) (v := (.slice a l k))))
  exact ⟨⟨(grown_put h1 (by omega)), h2, h3, by simpa [World.setCell] using h4, h5⟩, (Cur.put h6 (by omega)), (box_other h7 (by omega)), s, a, l, k, ma, ml, mc, (h8.put 6 (.slice a l k)), q.1, q.2.1, hl, q.2.2.2.1, hr.keep keep_put, q.2.2.2.2.2⟩
theorem NI.view {B T c : Nat} {w : World} {o : No} {s : List Nat × Bool} {wr : World} {a : Option Addr} {l k : Nat} (h : NI B T c w (o, s) wr) (x : Int) (xs : List (Int × Int)) (hl : xs.length ≤ 20000) (hr : RowV (w.heap.size + 2) wr (.slice a l k) xs.length (mV xs)) : NI B T c w ({ o with vep := x, mem := xs }, s) ((wr.setCell ⟨w.heap.size + 1, 9, none⟩ (.int .i64 x)).setCell ⟨w.heap.size + 1, 10, none⟩ (.slice a l k)) := by
  obtain ⟨⟨h1, h2, h3, h4, h5⟩, h6, h7, s, aa, al, ac, ma, ml, mc, h8, h9⟩ := h
  have q := (NM.keep (NM.keep h9 (keep_put (w := w) (o := 9) (v := (.int .i64 x)))) (keep_put (w := w) (o := 10) (v := (.slice a l k))))
  exact ⟨⟨(grown_put (grown_put h1 (by omega)) (by omega)), h2, h3, by simpa [World.setCell] using h4, h5⟩, (Cur.put (Cur.put h6 (by omega)) (by omega)), (box_other (box_other h7 (by omega)) (by omega)), s, aa, al, ac, a, l, k, ((h8.put 9 (.int .i64 x)).put 10 (.slice a l k)), q.1, q.2.1, q.2.2.1, hl, q.2.2.2.2.1, RowV.keep (RowV.keep hr keep_put) keep_put⟩
end Go.Proofs.Ytgkpioleipefmaa
