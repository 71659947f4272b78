/- The document's reader of notes: what it holds in memory. -/
import Derived.Test.YtgkpioleipefmaaRpv
import Derived.Test.YtgkpioleipefmaaRefD
import Derived.Deep.DeepAppendRoom
import Derived.ArgAppend
namespace Go.Proofs.Ytgkpioleipefmaa
open Go.RowKit Go.ChangeShapes Go.WideShapes Go.ChangeAt Go.Deep

theorem rpackQ (n : No) (s : ByteArray) (av mv : Value) (B : Nat) (w : World) (hM : NM B w n s av mv) (hI : NIn n) (hm : mayN (clearN n) = true) : Calls Try.prog 12 #[Nv n s av mv] w (RP (encN (clearN n)) w) := by
  refine (rpack_any n s av mv B w hM hI).mono ?_
  intro e w' h
  unfold RPost at h
  simp only [hm, if_true] at h
  exact h
theorem rpackN (n : No) (s : ByteArray) (av mv : Value) (B : Nat) (w : World) (hM : NM B w n s av mv) (hI : NIn n) (hm : mayN (clearN n) = false) : Calls Try.prog 12 #[Nv n s av mv] w fun e w' => e = .returned (.tuple #[.slice none 0 0, .int .i64 1]) ∧ Below w.heap.size w w' := by
  refine (rpack_any n s av mv B w hM hI).mono ?_
  intro e w' h
  unfold RPost at h
  simp only [hm, Bool.false_eq_true, if_false] at h
  exact h

theorem RC.put {w : World} {r : Nat} {a : Option Addr} {l c p : Nat} {bad : Bool} (h : RC w r a l c p bad) (g o : Nat) (v : Value) (hg : r ≠ g) : RC (w.setCell ⟨g, o, none⟩ v) r a l c p bad := by
  obtain ⟨h0, h1, h2, f0, f1, f2⟩ := h
  have hb : (w.setCell ⟨g, o, none⟩ v).heap[r]? = w.heap[r]? := Below.heap_setCell _ _ _ _ hg
  refine ⟨?_, ?_, ?_, ?_, ?_, ?_⟩
  · rw [World.cell?_of_block (w := w) (a := ⟨r, 0, none⟩) hb]; exact h0
  · rw [World.cell?_of_block (w := w) (a := ⟨r, 1, none⟩) hb]; exact h1
  · rw [World.cell?_of_block (w := w) (a := ⟨r, 2, none⟩) hb]; exact h2
  · rw [World.frozen?_of_block (w := w) (a := ⟨r, 0, none⟩) hb]; exact f0
  · rw [World.frozen?_of_block (w := w) (a := ⟨r, 1, none⟩) hb]; exact f1
  · rw [World.frozen?_of_block (w := w) (a := ⟨r, 2, none⟩) hb]; exact f2
theorem RC.keepb {w w' : World} {r : Nat} {a : Option Addr} {l c p : Nat} {bad : Bool} (h : RC w r a l c p bad) (hb : w'.heap[r]? = w.heap[r]?) : RC w' r a l c p bad := by
  obtain ⟨h0, h1, h2, f0, f1, f2⟩ := h
  refine ⟨?_, ?_, ?_, ?_, ?_, ?_⟩
  · rw [World.cell?_of_block (w := w) (a := ⟨r, 0, none⟩) hb]; exact h0
  · rw [World.cell?_of_block (w := w) (a := ⟨r, 1, none⟩) hb]; exact h1
  · rw [World.cell?_of_block (w := w) (a := ⟨r, 2, none⟩) hb]; exact h2
  · rw [World.frozen?_of_block (w := w) (a := ⟨r, 0, none⟩) hb]; exact f0
  · rw [World.frozen?_of_block (w := w) (a := ⟨r, 1, none⟩) hb]; exact f1
  · rw [World.frozen?_of_block (w := w) (a := ⟨r, 2, none⟩) hb]; exact f2
theorem RCur.keepb {w w' : World} {r : Nat} {a : Option Addr} {l c : Nat} {bs rest : List Nat} {bad : Bool} (h : RCur w r a l c bs rest bad) (hb : w'.heap[r]? = w.heap[r]?) : RCur w' r a l c bs rest bad := by
  obtain ⟨p, hp, hR, e⟩ := h
  exact ⟨p, hp, hR.keepb hb, e⟩
theorem RCur.bad {w : World} {r : Nat} {a : Option Addr} {l c : Nat} {bs rest : List Nat} {bad : Bool} (h : RCur w r a l c bs rest bad) : w.cell? ⟨r, 2, none⟩ = some (.bool bad) := by
  obtain ⟨p, hp, ⟨_, _, h2, _⟩, _⟩ := h
  exact h2
theorem rdInt_bad (bs : List Nat) (bad : Bool) (h : bad = true → bs = []) : (rdInt bs bad).2.2 = true → (rdInt bs bad).2.1 = [] := by
  unfold rdInt
  cases hd : dec bs with
  | none => simp
  | some uk =>
    intro hb
    have hb' : bad = true := hb
    rw [h hb'] at hd
    cases hd
theorem rdBytes_bad (bs : List Nat) (bad : Bool) (h : bad = true → bs = []) : (rdBytes bs bad).2.2 = true → (rdBytes bs bad).2.1 = [] := by
  have h1 := rdInt_bad bs bad h
  unfold rdBytes
  split
  · intro _; rfl
  · intro hb
    simp_all
/-- The bytes that are read: an argument's, or others that were there. -/
structure SrcA (w : World) (a : Option Addr) (l c : Nat) (bs : List Nat) : Prop where
  len : bs.length = l
  byt : Byt bs
  cap : l ≤ c
  few : l ≤ 20000
  nil : a = none → l = 0 ∧ c = 0
  mx : c ≤ maxLen
  reads : Reads w a (bV bs)
theorem SrcA.src {w W : World} {a : Option Addr} {l c : Nat} {bs : List Nat} (h : SrcA w a l c bs) (r : Nat) (hr : w.heap.size ≤ r) (hb : Below w.heap.size w W) : Src W r a l c bs := by
  refine ⟨h.len, h.byt, h.cap, by have := h.few; omega, h.nil, h.mx, fun p hp => ?_⟩
  rcases h.reads with e | ⟨b, off, e, hc⟩
  · have := bV_length bs
    rw [e] at this
    simp at this
    omega
  · have h1 := hc p (.int .u8 (bs[p] : Nat)) (by simp [bV, hp])
    have hlt := cell_some_lt h1
    exact ⟨b, off, e, by simp at hlt; omega, keep_cell h1 hb⟩
theorem conv22 {w : World} {xs : List Nat} {a : Option Addr} {m : Nat} (hm : xs.length = m) (h : Reads w a (bV xs)) (cap : Nat) :
    (convert 34 22 (.slice a m cap)).run Try.prog w = .ok (.string (bstr xs)) w := by
  subst hm
  rcases h with h | ⟨b, off, rfl, hc⟩
  · have : xs = [] := by simpa [bV] using h
    subst this
    cases a with
    | none => exact run_convert_bytes_nil w 34 5 Try.underlying34 Try.underlying5 0 cap 22 Try.underlying22
    | some ad =>
      have hl : (loadCells ad 0).run Try.prog w = .ok (([] : List Int).map (Value.int .u8)).toArray w := by
        simpa using run_loadCells_list (P := Try.prog) w ad [] (by simp)
      show (convert 34 22 (.slice (some ad) 0 cap)).run Try.prog w = _
      rw [run_convert_bytes_string w 34 22 5 _ 0 cap Try.underlying34 Try.underlying5 Try.underlying22, run_bytesToString w ad 0 cap [] hl]
      rfl
  · exact run_convert_bytes_arg w 34 5 Try.underlying34 Try.underlying5 b off xs.length cap (xs.map fun (x : Nat) => (x : Int)) (by simp) (fun i hi => hc i _ (by simp [bV, List.getD, hi])) 22 Try.underlying22
/-- The reader in memory: what it answers, its cursor, its note. -/
structure RS (w W : World) (a : Option Addr) (l c : Nat) (bs rest : List Nat) (bad : Bool) (n : No) (s : ByteArray) (av mv : Value) : Prop where
  cur : RCur W (w.heap.size + 1) a l c bs rest bad
  res : BoxL W w.heap.size [.int .i64 0, .int .i64 0, .int .i64 0, .int .i64 0, .string ⟨#[]⟩, .int .i64 0, .slice none 0 0, .int .i64 0, .int .i64 0, .int .i64 0, .slice none 0 0]
  box : BoxL W (w.heap.size + 2) (Nc n s av mv)
  txt : uN s.data.toList = n.id ∧ s.size ≤ 20000
  args : n.args.length ≤ 20 ∧ W.ownsRow (w.heap.size + 3) 3 1 av n.args.length (iV n.args)
  mem : n.mem.length ≤ 20 ∧ W.ownsRow (w.heap.size + 3) 50 2 mv n.mem.length (mV n.mem)
  low : Below w.heap.size w W
  big : w.heap.size + 3 ≤ W.heap.size
  zero : bad = true → rest = []
theorem owng_keep {w w' : World} {B t sz n : Nat} {v : Value} {xs : List Value} (h : w.ownsRow B t sz v n xs) (hk : ∀ k, B ≤ k → k < w.heap.size → w'.heap[k]? = w.heap[k]?) : w'.ownsRow B t sz v n xs := by
  refine ⟨h.1, ?_⟩
  rcases h.2 with h | ⟨g, cap, cur, e, h1, h2, h3⟩
  · exact .inl h
  · exact .inr ⟨g, cap, cur, e, h1, by rw [hk g h1 (Array.getElem?_eq_some_iff.1 h2).1]; exact h2, h3⟩
/-- A number is read. -/
theorem RS.int {w W : World} {a : Option Addr} {l c : Nat} {bs rest : List Nat} {bad : Bool} {n : No} {s : ByteArray} {av mv : Value} (h : RS w W a l c bs rest bad n s av mv) (hs : SrcA w a l c bs) :
    Calls Try.prog 32 #[.pointer (some ⟨w.heap.size + 1, 0, none⟩)] W fun e W' => e = .returned (.int .i64 (rdInt rest bad).1) ∧ RS w W' a l c bs (rdInt rest bad).2.1 (rdInt rest bad).2.2 n s av mv := by
  refine (refcInt_any (w.heap.size + 1) a l c bs rest bad W h.cur (hs.src _ (by omega) h.low)).mono ?_
  rintro e W' ⟨rfl, hC, hg⟩
  have hb := h.big
  refine ⟨rfl, hC, h.res.grown hg (by omega), h.box.grown hg (by omega), h.txt, ⟨h.args.1, owng_keep h.args.2 (fun k h1 h2 => hg.block k h2 (by simp; omega))⟩, ⟨h.mem.1, owng_keep h.mem.2 (fun k h1 h2 => hg.block k h2 (by simp; omega))⟩, h.low.grown hg h.low.size (fun q hq => by cases hq; omega), by have := hg.size; omega, rdInt_bad _ _ h.zero⟩
/-- A text is read. -/
theorem RS.bytes {w W : World} {a : Option Addr} {l c : Nat} {bs rest : List Nat} {bad : Bool} {n : No} {s : ByteArray} {av mv : Value} (h : RS w W a l c bs rest bad n s av mv) (hs : SrcA w a l c bs) :
    Calls Try.prog 33 #[.pointer (some ⟨w.heap.size + 1, 0, none⟩)] W fun e W' => ∃ a' m' c', e = .returned (.slice a' m' c') ∧ (convert 34 22 (.slice a' m' c')).run Try.prog W' = .ok (.string (bstr (rdBytes rest bad).1)) W' ∧ RS w W' a l c bs (rdBytes rest bad).2.1 (rdBytes rest bad).2.2 n s av mv := by
  refine (refcBytes_any (w.heap.size + 1) a l c bs rest bad W h.cur (hs.src _ (by omega) h.low) h.zero).mono ?_
  rintro e W' ⟨a', c', m', rfl, hm, hT, hr, hC, hg⟩
  have hb := h.big
  refine ⟨a', m', c', rfl, conv22 hm.out hr c', hC, h.res.grown hg (by omega), h.box.grown hg (by omega), h.txt, ⟨h.args.1, owng_keep h.args.2 (fun k h1 h2 => hg.block k h2 (by simp; omega))⟩, ⟨h.mem.1, owng_keep h.mem.2 (fun k h1 h2 => hg.block k h2 (by simp; omega))⟩, h.low.grown hg h.low.size (fun q hq => by cases hq; omega), by have := hg.size; omega, rdBytes_bad _ _ h.zero⟩
/-- A cell of the note is put. -/
theorem RS.putg {w W : World} {a : Option Addr} {l c : Nat} {bs rest : List Nat} {bad : Bool} {n n' : No} {s s' : ByteArray} {av mv : Value} (h : RS w W a l c bs rest bad n s av mv) (i : Nat) (v : Value) (hb : (Nc n s av mv).set i v = Nc n' s' av mv) (ht : uN s'.data.toList = n'.id ∧ s'.size ≤ 20000) (ha : n'.args = n.args) (hm : n'.mem = n.mem) :
    RS w (W.setCell ⟨w.heap.size + 2, i, none⟩ v) a l c bs rest bad n' s' av mv := by
  have hk : ∀ k, k ≠ w.heap.size + 2 → (W.setCell ⟨w.heap.size + 2, i, none⟩ v).heap[k]? = W.heap[k]? := fun k hk => Below.heap_setCell _ _ _ _ hk
  refine ⟨h.cur.keepb (hk _ (by omega)), box_other h.res (by omega), by rw [← hb]; exact h.box.put i v, ht, ⟨by rw [ha]; exact h.args.1, by rw [ha]; exact owng_keep h.args.2 (fun k h1 _ => hk k (by omega))⟩, ⟨by rw [hm]; exact h.mem.1, by rw [hm]; exact owng_keep h.mem.2 (fun k h1 _ => hk k (by omega))⟩, below_put h.low (by omega), by have := h.big; simpa [World.setCell] using this, h.zero⟩
theorem RS.put0 {w W : World} {a : Option Addr} {l c : Nat} {bs rest : List Nat} {bad : Bool} {n : No} {s : ByteArray} {av mv : Value} (h : RS w W a l c bs rest bad n s av mv) (x : Int) : RS w (W.setCell ⟨w.heap.size + 2, 0, none⟩ (.int .i64 x)) a l c bs rest bad { n with kind := x } s av mv := h.putg 0 _ rfl h.txt rfl rfl
theorem RS.put1 {w W : World} {a : Option Addr} {l c : Nat} {bs rest : List Nat} {bad : Bool} {n : No} {s : ByteArray} {av mv : Value} (h : RS w W a l c bs rest bad n s av mv) (x : Int) : RS w (W.setCell ⟨w.heap.size + 2, 1, none⟩ (.int .i64 x)) a l c bs rest bad { n with node := x } s av mv := h.putg 1 _ rfl h.txt rfl rfl
theorem RS.put2 {w W : World} {a : Option Addr} {l c : Nat} {bs rest : List Nat} {bad : Bool} {n : No} {s : ByteArray} {av mv : Value} (h : RS w W a l c bs rest bad n s av mv) (x : Int) : RS w (W.setCell ⟨w.heap.size + 2, 2, none⟩ (.int .i64 x)) a l c bs rest bad { n with life := x } s av mv := h.putg 2 _ rfl h.txt rfl rfl
theorem RS.put3 {w W : World} {a : Option Addr} {l c : Nat} {bs rest : List Nat} {bad : Bool} {n : No} {s : ByteArray} {av mv : Value} (h : RS w W a l c bs rest bad n s av mv) (x : Int) : RS w (W.setCell ⟨w.heap.size + 2, 3, none⟩ (.int .i64 x)) a l c bs rest bad { n with epoch := x } s av mv := h.putg 3 _ rfl h.txt rfl rfl
theorem RS.put5 {w W : World} {a : Option Addr} {l c : Nat} {bs rest : List Nat} {bad : Bool} {n : No} {s : ByteArray} {av mv : Value} (h : RS w W a l c bs rest bad n s av mv) (x : Int) : RS w (W.setCell ⟨w.heap.size + 2, 5, none⟩ (.int .i64 x)) a l c bs rest bad { n with func := x } s av mv := h.putg 5 _ rfl h.txt rfl rfl
theorem RS.put7 {w W : World} {a : Option Addr} {l c : Nat} {bs rest : List Nat} {bad : Bool} {n : No} {s : ByteArray} {av mv : Value} (h : RS w W a l c bs rest bad n s av mv) (x : Int) : RS w (W.setCell ⟨w.heap.size + 2, 7, none⟩ (.int .i64 x)) a l c bs rest bad { n with err := x } s av mv := h.putg 7 _ rfl h.txt rfl rfl
theorem RS.put8 {w W : World} {a : Option Addr} {l c : Nat} {bs rest : List Nat} {bad : Bool} {n : No} {s : ByteArray} {av mv : Value} (h : RS w W a l c bs rest bad n s av mv) (x : Int) : RS w (W.setCell ⟨w.heap.size + 2, 8, none⟩ (.int .i64 x)) a l c bs rest bad { n with val := x } s av mv := h.putg 8 _ rfl h.txt rfl rfl
theorem RS.put9 {w W : World} {a : Option Addr} {l c : Nat} {bs rest : List Nat} {bad : Bool} {n : No} {s : ByteArray} {av mv : Value} (h : RS w W a l c bs rest bad n s av mv) (x : Int) : RS w (W.setCell ⟨w.heap.size + 2, 9, none⟩ (.int .i64 x)) a l c bs rest bad { n with vep := x } s av mv := h.putg 9 _ rfl h.txt rfl rfl
theorem RS.put4 {w W : World} {a : Option Addr} {l c : Nat} {bs rest : List Nat} {bad : Bool} {n : No} {s : ByteArray} {av mv : Value} (h : RS w W a l c bs rest bad n s av mv) (t : List Nat) (ht : Byt t) (hl : t.length ≤ 20000) : RS w (W.setCell ⟨w.heap.size + 2, 4, none⟩ (.string (bstr t))) a l c bs rest bad { n with id := t } (bstr t) av mv :=
  h.putg 4 _ rfl (by
    have h1 := bstr_nums ht
    rw [ByteArray.toList_eq] at h1
    have h2 : uN (bstr t).data.toList = t := h1
    refine ⟨h2, ?_⟩
    have h3 := congrArg List.length h2
    simp only [uN, List.length_map] at h3
    rw [Lib.size_eq, h3]
    exact hl) rfl rfl
theorem rdBytes_len (bs : List Nat) (bad : Bool) : (rdBytes bs bad).1.length ≤ bs.length := by
  unfold rdBytes
  split
  · simp
  · have := rdInt_len bs bad
    simp only [List.length_take]
    omega
theorem rdBytes_rest {bs x r : List Nat} {bad b : Bool} (h : Byt bs) (hl : bs.length ≤ 20000) (e : rdBytes bs bad = (x, r, b)) : Byt r ∧ r.length ≤ 20000 := by
  have h1 := rdInt_len bs bad
  unfold rdBytes at e
  split at e
  · simp only [Prod.mk.injEq] at e
    obtain ⟨_, rfl, _⟩ := e
    exact ⟨fun x hx => by simp at hx, Nat.zero_le _⟩
  · simp only [Prod.mk.injEq] at e
    obtain ⟨_, rfl, _⟩ := e
    refine ⟨fun x hx => ?_, by rw [List.length_drop]; omega⟩
    exact rdInt_byt h (show rdInt bs bad = ((rdInt bs bad).1, (rdInt bs bad).2.1, (rdInt bs bad).2.2) from rfl) x (List.mem_of_mem_drop hx)
/-- What is answered. -/
def okR (bs : List Nat) : Bool := !(rdNote 20 bs).2.2 && (mayN (rdNote 20 bs).1 && decide (encN (rdNote 20 bs).1 = bs))
def RNPost (bs : List Nat) (w : World) (e : Ending) (w' : World) : Prop :=
  if okR bs = true then ∃ s av mv, e = .returned (.tuple #[Nv (rdNote 20 bs).1 s av mv, .int .i64 0]) ∧ NM w.heap.size w' (rdNote 20 bs).1 s av mv ∧ Below w.heap.size w w'
  else e = .returned (.tuple #[Nv no0 ⟨#[]⟩ (.slice none 0 0) (.slice none 0 0), .int .i64 4]) ∧ Below w.heap.size w w'
theorem RS.nm {w W : World} {a : Option Addr} {l c : Nat} {bs rest : List Nat} {bad : Bool} {n : No} {s : ByteArray} {av mv : Value} (h : RS w W a l c bs rest bad n s av mv) : NM w.heap.size W n s av mv :=
  ⟨h.txt.1, h.txt.2, by have := h.args.1; omega, by have := h.mem.1; omega, (owng_row h.args.2).mono (by omega), (owng_row h.mem.2).mono (by omega)⟩
theorem RS.nm3 {w W : World} {a : Option Addr} {l c : Nat} {bs rest : List Nat} {bad : Bool} {n : No} {s : ByteArray} {av mv : Value} (h : RS w W a l c bs rest bad n s av mv) : NM (w.heap.size + 3) W n s av mv :=
  ⟨h.txt.1, h.txt.2, by have := h.args.1; omega, by have := h.mem.1; omega, owng_row h.args.2, owng_row h.mem.2⟩
/-- The reader's start. -/
theorem rs_start {w : World} {a : Option Addr} {l c : Nat} {bs : List Nat} : RS w (((w.alloc (.cells #[.int .i64 0, .int .i64 0, .int .i64 0, .int .i64 0, .string ⟨#[]⟩, .int .i64 0, .slice none 0 0, .int .i64 0, .int .i64 0, .int .i64 0, .slice none 0 0] 31)).alloc (.cells #[.slice a l c, .int .i64 0, .bool false] 73)).alloc (.cells #[.int .i64 0, .int .i64 0, .int .i64 0, .int .i64 0, .string ⟨#[]⟩, .int .i64 0, .slice none 0 0, .int .i64 0, .int .i64 0, .int .i64 0, .slice none 0 0] 31)) a l c bs bs false no0 ⟨#[]⟩ (.slice none 0 0) (.slice none 0 0) := by
  have b1 := below_new w (.cells #[.int .i64 0, .int .i64 0, .int .i64 0, .int .i64 0, .string ⟨#[]⟩, .int .i64 0, .slice none 0 0, .int .i64 0, .int .i64 0, .int .i64 0, .slice none 0 0] 31)
  have e1 : (w.alloc (.cells #[.int .i64 0, .int .i64 0, .int .i64 0, .int .i64 0, .string ⟨#[]⟩, .int .i64 0, .slice none 0 0, .int .i64 0, .int .i64 0, .int .i64 0, .slice none 0 0] 31)).heap.size = w.heap.size + 1 := by simp
  have x1 := BoxL.new w [.int .i64 0, .int .i64 0, .int .i64 0, .int .i64 0, .string ⟨#[]⟩, .int .i64 0, .slice none 0 0, .int .i64 0, .int .i64 0, .int .i64 0, .slice none 0 0] 31
  generalize w.alloc (.cells #[.int .i64 0, .int .i64 0, .int .i64 0, .int .i64 0, .string ⟨#[]⟩, .int .i64 0, .slice none 0 0, .int .i64 0, .int .i64 0, .int .i64 0, .slice none 0 0] 31) = w1 at b1 e1 x1
  have b2 := below_new w1 (.cells #[.slice a l c, .int .i64 0, .bool false] 73)
  have e2 : (w1.alloc (.cells #[.slice a l c, .int .i64 0, .bool false] 73)).heap.size = w1.heap.size + 1 := by simp
  have x2 := BoxL.new w1 [.slice a l c, .int .i64 0, .bool false] 73
  generalize w1.alloc (.cells #[.slice a l c, .int .i64 0, .bool false] 73) = w2 at b2 e2 x2
  have b3 := below_new w2 (.cells #[.int .i64 0, .int .i64 0, .int .i64 0, .int .i64 0, .string ⟨#[]⟩, .int .i64 0, .slice none 0 0, .int .i64 0, .int .i64 0, .int .i64 0, .slice none 0 0] 31)
  have e3 : (w2.alloc (.cells #[.int .i64 0, .int .i64 0, .int .i64 0, .int .i64 0, .string ⟨#[]⟩, .int .i64 0, .slice none 0 0, .int .i64 0, .int .i64 0, .int .i64 0, .slice none 0 0] 31)).heap.size = w2.heap.size + 1 := by simp
  have x3 := BoxL.new w2 [.int .i64 0, .int .i64 0, .int .i64 0, .int .i64 0, .string ⟨#[]⟩, .int .i64 0, .slice none 0 0, .int .i64 0, .int .i64 0, .int .i64 0, .slice none 0 0] 31
  have hx2 := x2.below b3
  rw [e1] at hx2
  refine ⟨⟨0, Nat.zero_le _, ⟨(hx2.2 0 (by simp)).1, (hx2.2 1 (by simp)).1, (hx2.2 2 (by simp)).1, (hx2.2 0 (by simp)).2, (hx2.2 1 (by simp)).2, (hx2.2 2 (by simp)).2⟩, rfl⟩, (x1.below b2).below b3, ?_, ⟨rfl, Nat.zero_le _⟩, ⟨Nat.zero_le _, World.ownsRow_nil _ _ _ _⟩, ⟨Nat.zero_le _, World.ownsRow_nil _ _ _ _⟩, (b1.trans (b2.mono (by omega))).trans (b3.mono (by omega)), by omega, fun h => by cases h⟩
  rw [e2, e1] at x3
  exact x3
theorem okR_no {bs r : List Nat} {b : Bool} {n : No} (h : rdNote 20 bs = (n, r, b)) (hc : b = true ∨ mayN (clearN n) = false ∨ encN (clearN n) ≠ bs) : okR bs = false := by
  cases hk : okR bs with
  | false => rfl
  | true =>
    unfold okR at hk
    simp only [h, Bool.and_eq_true, Bool.not_eq_true', decide_eq_true_eq] at hk
    obtain ⟨h1, h2, h3⟩ := hk
    have h4 := rdNote_clear 20 bs (by rw [h]; exact (may_parts h2).1)
    rw [h] at h4
    simp only at h4
    rw [h4] at hc
    rcases hc with hc | hc | hc
    · rw [hc] at h1; cases h1
    · rw [hc] at h2; cases h2
    · exact absurd h3 hc
theorem okR_yes {bs r : List Nat} {n : No} (h : rdNote 20 bs = (n, r, false)) (hm : mayN (clearN n) = true) (he : encN (clearN n) = bs) : okR bs = true := by
  have hk : isKind n.kind = true := by
    have h1 := (may_parts hm).1
    rw [clear_kind] at h1
    split at h1
    · assumption
    · cases h1
  have h4 := rdNote_clear 20 bs (by rw [h]; exact hk)
  rw [h] at h4
  simp only at h4
  rw [h4] at hm he
  unfold okR
  simp [h, hm, he]
theorem rdMem_in (k : Nat) (s : List Nat × Bool) : ∀ m ∈ (rdMem k s).1, In1 m.1 ∧ In1 m.2 := by
  induction k generalizing s with
  | zero => intro m hm; simp [rdMem] at hm
  | succ k ih =>
    intro m hm
    unfold rdMem at hm
    split at hm
    · simp at hm
    · simp only [List.mem_cons] at hm
      rcases hm with rfl | hm
      · exact ⟨rdInt_in _ _, rdInt_in _ _⟩
      · exact ih _ m hm
theorem in1_ite {c : Prop} [Decidable c] {x y : Int} (h : In1 x) (k : In1 y) : In1 (if c then x else y) := by split <;> assumption
theorem rdNote_in (bs : List Nat) : NIn (rdNote 20 bs).1 := by
  unfold rdNote
  simp only
  exact ⟨⟨rdInt_in _ _, rdI_in _ _, in1_ite (rdI_in _ _) (rdI_in _ _), rdI_in _ _⟩, ⟨rdI_in _ _, rdMany_in _ _⟩, ⟨rdI_in _ _, rdI_in _ _⟩, rdI_in _ _, rdMem_in _ _⟩
theorem nm_byt {B : Nat} {w : World} {n : No} {s : ByteArray} {av mv : Value} (h : NM B w n s av mv) (hI : NIn n) : Byt (encN (clearN n)) := by
  obtain ⟨h1, h2, h3, h4, _, _⟩ := h
  have hc := clear_len n
  have hl : n.id.length ≤ 20000 := by rw [← h1]; simpa [uN] using h2
  refine encN_byt (clearN n) (clear_in hI) ?_ (by omega) (by omega) (by omega)
  intro x hx
  have hx' : x ∈ n.id := by
    unfold clearN at hx
    split at hx
    · simp only at hx
      split at hx
      · exact hx
      · cases hx
    · cases hx
  rw [← h1] at hx'
  simp only [uN, List.mem_map] at hx'
  obtain ⟨y, _, rfl⟩ := hx'
  exact UInt8.toNat_lt y

theorem run_append_where (w : World) (B : Nat) (v : Value) (n : Nat) (xs ys : List Int) (ad : Option Addr) (m c : Nat) (hown : w.ownsRow B 3 1 v n (iV xs)) (hnil : ad = none → m = 0 ∧ c = 0) (hl : ys.length = m) (hr : Reads w ad (iV ys)) (hb : n + m ≤ 1000000) (hB : B ≤ w.heap.size) (ty : TypeId) :
    ∃ v' w', (Builtin.append_ #[23, 23] ty #[v, .slice ad m c]).run Try.prog w = .ok v' w' ∧ w'.ownsRow B 3 1 v' (n + m) (iV (xs ++ ys)) ∧ w.grownBy w' v.ownBlock ∧ (v'.ownBlock = v.ownBlock ∨ ∀ g, v'.ownBlock = some g → w.heap.size ≤ g) := by
  obtain ⟨i0, hi, hz0, hz1, hz2⟩ := info_parts Try.info3
  cases ad with
  | none =>
    obtain ⟨rfl, rfl⟩ := hnil rfl
    have hy : ys = [] := by cases ys with | nil => rfl | cons _ _ => simp at hl
    subst hy
    exact ⟨v, w, run_append_owned_none (P := Try.prog) (w := w) B 23 ty 3 i0 1 Try.underlying23 hi v n (iV xs) hown, by simpa using hown, ⟨rfl, rfl, rfl, Nat.le_refl _, fun _ _ _ => rfl⟩, .inl rfl⟩
  | some a =>
    have hcells : ∀ j u, (iV ys)[j]? = some u → w.cell? (a.add j) = some u := by
      rcases hr with hr | ⟨b, off, e, hr⟩
      · rw [hr]; simp
      · simp at e
        subst e
        intro j u hu
        rw [add_none]; exact hr j u hu
    rcases hown.2 with ⟨rfl, h0⟩ | ⟨g, cap, cur, rfl, h1, h2, h3, h4, h5, h6⟩
    · subst h0
      obtain ⟨v', w', q1, q2, q3, _⟩ := run_append_own (P := Try.prog) w w.heap.size 23 ty 3 i0 (.int .i64 0) 1 8 Try.underlying23 hi hz0 hz1 hz2 rfl (by decide) (.slice none 0 0) 0 (iV xs) (by
        have : xs = [] := List.eq_nil_of_length_eq_zero (by have := hown.1; simpa [iV] using this)
        subst this
        exact World.ownsRow_nil w _ 3 1) a m c (iV ys) (by rw [iV_len]; omega) hcells (iV_one ys) (by unfold maxLen; omega) (by omega) (Nat.le_refl _)
      exact ⟨v', w', q1, by rw [iV_app]; exact owng_mono q2 hB, q3, .inr (fun g hg => (q2.lt g hg).1)⟩
    · by_cases hroom : n + m ≤ cap
      · obtain ⟨w', q1, q2, q3⟩ := run_append_own_spare (P := Try.prog) w B 23 ty 3 i0 1 Try.underlying23 hi hz1 g n cap (iV xs) hown a m c (iV ys) (by rw [iV_len]; omega) hcells (iV_one ys) hroom
        exact ⟨_, w', q1, by rw [iV_app]; exact q2, q3, .inl rfl⟩
      · obtain ⟨v', w', q1, q2, q3⟩ := run_append_arg_grows (P := Try.prog) w 23 ty 3 i0 (.int .i64 0) 1 8 Try.underlying23 hi hz0 hz1 hz2 rfl (by decide) ⟨g, 0, none⟩ n cap (iV xs) (by have := hown.1; omega) (fun j u hu => hown.cells (g := g) rfl j u hu) a m c (iV ys) (by rw [iV_len]; omega) hcells (by omega) (by unfold maxLen; omega) (by omega)
        exact ⟨v', w', q1, by rw [iV_app]; exact owng_mono q2 hB, ⟨q3.os, q3.tape, q3.output, q3.size, fun k hk _ => q3.block k hk (by simp)⟩, .inr (fun g hg => (q2.lt g hg).1)⟩

theorem wp_append_int {w w' : World} {o : Oper} {a : Act} {K : Act → World → Prop} {Q : Exit → Act → World → Prop} {v vx v' : Value} (s x : Operand)
    (ho : o.op = .call { callee := .builtin .append, args := #[s, x], argTypes := #[23, 23] }) (hs : a.eval s = v) (hx : a.eval x = vx)
    (hrun : (Builtin.append_ #[23, 23] o.type #[v, vx]).run Try.prog w = .ok v' w') (h : K (a.put o.dst v') w') : Oper.wp Try.prog o a w K Q := by
  unfold Oper.wp
  simp [execOp, ho, resolve, invoke, builtin, hs, hx, hrun, Result.andThen]
  exact h
theorem RS.below {w W W' : World} {a : Option Addr} {l c : Nat} {bs rest : List Nat} {bad : Bool} {n : No} {s : ByteArray} {av mv : Value} (h : RS w W a l c bs rest bad n s av mv) (hb : Below W.heap.size W W') : RS w W' a l c bs rest bad n s av mv := by
  have hg := h.big
  refine ⟨h.cur.keepb (hb.block _ (by omega)), h.res.below hb, h.box.below hb, h.txt, ⟨h.args.1, owng_keep h.args.2 (fun k _ h2 => hb.block k h2)⟩, ⟨h.mem.1, owng_keep h.mem.2 (fun k _ h2 => hb.block k h2)⟩, h.low.trans (hb.mono h.low.size), Nat.le_trans hg hb.size, h.zero⟩
/-- Only the cursor has gone on; other memory that was written is new. -/
theorem RS.move {w W W' : World} {a : Option Addr} {l c : Nat} {bs rest rest' : List Nat} {bad bad' : Bool} {n : No} {s : ByteArray} {av mv : Value} (h : RS w W a l c bs rest bad n s av mv) (hg : W.grownBy W' (some (w.heap.size + 1))) (hC : RCur W' (w.heap.size + 1) a l c bs rest' bad') (hz : bad' = true → rest' = []) : RS w W' a l c bs rest' bad' n s av mv := by
  have hb := h.big
  exact ⟨hC, h.res.grown hg (by omega), h.box.grown hg (by omega), h.txt, ⟨h.args.1, owng_keep h.args.2 (fun k h1 h2 => hg.block k h2 (by simp; omega))⟩, ⟨h.mem.1, owng_keep h.mem.2 (fun k h1 h2 => hg.block k h2 (by simp; omega))⟩, h.low.grown hg h.low.size (fun q hq => by cases hq; omega), by have := hg.size; omega, hz⟩
theorem RS.intG {w W : World} {a : Option Addr} {l c : Nat} {bs rest : List Nat} {bad : Bool} {n : No} {s : ByteArray} {av mv : Value} (h : RS w W a l c bs rest bad n s av mv) (hs : SrcA w a l c bs) :
    Calls Try.prog 32 #[.pointer (some ⟨w.heap.size + 1, 0, none⟩)] W fun e W' => e = .returned (.int .i64 (rdInt rest bad).1) ∧ RS w W' a l c bs (rdInt rest bad).2.1 (rdInt rest bad).2.2 n s av mv ∧ W.grownBy W' (some (w.heap.size + 1)) := by
  refine (refcInt_any (w.heap.size + 1) a l c bs rest bad W h.cur (hs.src _ (by omega) h.low)).mono ?_
  rintro e W' ⟨rfl, hC, hg⟩
  exact ⟨rfl, h.move hg hC (rdInt_bad _ _ h.zero), hg⟩
theorem grown_by {a b c : World} {r : Nat} (h : a.grownBy b (some r)) (k : b.grownBy c (some r)) : a.grownBy c (some r) := grown_trans h k
/-- A member more. -/
theorem RS.pushm {w W W' : World} {a : Option Addr} {l c : Nat} {bs rest : List Nat} {bad : Bool} {n : No} {s : ByteArray} {mv mv' : Value} {x : Int × Int} (h : RS w W a l c bs rest bad n s (.slice none 0 0) mv) (ha : n.args = []) (hk : n.mem.length < 20) (ho : W'.ownsRow (w.heap.size + 3) 50 2 mv' (n.mem.length + 1) (mV (n.mem ++ [x]))) (hg : W.grownBy W' mv.ownBlock) :
    RS w (W'.setCell ⟨w.heap.size + 2, 10, none⟩ mv') a l c bs rest bad { n with mem := n.mem ++ [x] } s (.slice none 0 0) mv' := by
  have hb := h.big
  have hmb : ∀ k, k < w.heap.size + 3 → k < W.heap.size → W'.heap[k]? = W.heap[k]? := fun k h1 h2 => hg.block k h2 (fun e => by have := (h.mem.2.lt k e.symm).1; omega)
  have hk2 : ∀ k, k ≠ w.heap.size + 2 → (W'.setCell ⟨w.heap.size + 2, 10, none⟩ mv').heap[k]? = W'.heap[k]? := fun k hk => Below.heap_setCell _ _ _ _ hk
  have hbox : BoxL W' (w.heap.size + 2) (Nc n s (.slice none 0 0) mv) := by
    refine ⟨by have := hg.size; omega, fun j hj => ?_⟩
    have := h.box.2 j hj
    rw [World.cell?_of_block (w := W) (a := ⟨w.heap.size + 2, j, none⟩) (hmb _ (by simp) (by simp; omega)), World.frozen?_of_block (w := W) (a := ⟨w.heap.size + 2, j, none⟩) (hmb _ (by simp) (by simp; omega))]
    exact this
  refine ⟨(h.cur.keepb (hmb _ (by omega) (by omega))).keepb (hk2 _ (by omega)), box_other ⟨by have := hg.size; omega, fun j hj => ?_⟩ (by omega), hbox.put 10 mv', h.txt, ⟨by rw [ha]; exact Nat.zero_le _, by simp only [ha]; exact World.ownsRow_nil _ _ _ _⟩, ⟨by simp only [List.length_append, List.length_singleton]; omega, ?_⟩, below_put (h.low.grown hg h.low.size (fun q hq => by have := (h.mem.2.lt q hq).1; omega)) (by omega), by have := hg.size; simp [World.setCell]; omega, h.zero⟩
  · have := h.res.2 j hj
    rw [World.cell?_of_block (w := W) (a := ⟨w.heap.size, j, none⟩) (hmb _ (by simp) (by simp; omega)), World.frozen?_of_block (w := W) (a := ⟨w.heap.size, j, none⟩) (hmb _ (by simp) (by simp; omega))]
    exact this
  · simp only [List.length_append, List.length_singleton]
    exact owng_keep ho (fun k h1 _ => hk2 k (by omega))
/-- An argument more. -/
theorem RS.pusha {w W W' : World} {a : Option Addr} {l c : Nat} {bs rest : List Nat} {bad : Bool} {n : No} {s : ByteArray} {av av' : Value} {x : Int} (h : RS w W a l c bs rest bad n s av (.slice none 0 0)) (hm : n.mem = []) (hk : n.args.length < 20) (ho : W'.ownsRow (w.heap.size + 3) 3 1 av' (n.args.length + 1) (iV (n.args ++ [x]))) (hg : W.grownBy W' av.ownBlock) :
    RS w (W'.setCell ⟨w.heap.size + 2, 6, none⟩ av') a l c bs rest bad { n with args := n.args ++ [x] } s av' (.slice none 0 0) := by
  have hb := h.big
  have hmb : ∀ k, k < w.heap.size + 3 → k < W.heap.size → W'.heap[k]? = W.heap[k]? := fun k h1 h2 => hg.block k h2 (fun e => by have := (h.args.2.lt k e.symm).1; omega)
  have hk2 : ∀ k, k ≠ w.heap.size + 2 → (W'.setCell ⟨w.heap.size + 2, 6, none⟩ av').heap[k]? = W'.heap[k]? := fun k hk => Below.heap_setCell _ _ _ _ hk
  have hbox : BoxL W' (w.heap.size + 2) (Nc n s av (.slice none 0 0)) := by
    refine ⟨by have := hg.size; omega, fun j hj => ?_⟩
    have := h.box.2 j hj
    rw [World.cell?_of_block (w := W) (a := ⟨w.heap.size + 2, j, none⟩) (hmb _ (by simp) (by simp; omega)), World.frozen?_of_block (w := W) (a := ⟨w.heap.size + 2, j, none⟩) (hmb _ (by simp) (by simp; omega))]
    exact this
  refine ⟨(h.cur.keepb (hmb _ (by omega) (by omega))).keepb (hk2 _ (by omega)), box_other ⟨by have := hg.size; omega, fun j hj => ?_⟩ (by omega), hbox.put 6 av', h.txt, ⟨by simp only [List.length_append, List.length_singleton]; omega, ?_⟩, ⟨by rw [hm]; exact Nat.zero_le _, by simp only [hm]; exact World.ownsRow_nil _ _ _ _⟩, below_put (h.low.grown hg h.low.size (fun q hq => by have := (h.args.2.lt q hq).1; omega)) (by omega), by have := hg.size; simp [World.setCell]; omega, h.zero⟩
  · have := h.res.2 j hj
    rw [World.cell?_of_block (w := W) (a := ⟨w.heap.size, j, none⟩) (hmb _ (by simp) (by simp; omega)), World.frozen?_of_block (w := W) (a := ⟨w.heap.size, j, none⟩) (hmb _ (by simp) (by simp; omega))]
    exact this
  · simp only [List.length_append, List.length_singleton]
    exact owng_keep ho (fun k h1 _ => hk2 k (by omega))
/-- The note's cells behind an append to one of its rows. -/
theorem RS.boxx {w W W' : World} {a : Option Addr} {l c : Nat} {bs rest : List Nat} {bad : Bool} {n : No} {s : ByteArray} {av mv : Value} (h : RS w W a l c bs rest bad n s av mv) (hg : W.grownBy W' mv.ownBlock) : W'.cell? ⟨w.heap.size + 2, 10, none⟩ = some mv ∧ W'.frozen? ⟨w.heap.size + 2, 10, none⟩ = false := by
  have hb := h.big
  have hmb : W'.heap[w.heap.size + 2]? = W.heap[w.heap.size + 2]? := hg.block _ (by omega) (fun e => by have := (h.mem.2.lt _ e.symm).1; omega)
  have h1 := h.box.2 10 (by simp [Nc])
  rw [World.cell?_of_block (w := W) (a := ⟨w.heap.size + 2, 10, none⟩) hmb, World.frozen?_of_block (w := W) (a := ⟨w.heap.size + 2, 10, none⟩) hmb]
  exact ⟨h1.1, h1.2⟩
theorem RS.boxa {w W W' : World} {a : Option Addr} {l c : Nat} {bs rest : List Nat} {bad : Bool} {n : No} {s : ByteArray} {av mv : Value} (h : RS w W a l c bs rest bad n s av mv) (hg : W.grownBy W' av.ownBlock) : W'.cell? ⟨w.heap.size + 2, 6, none⟩ = some av ∧ W'.frozen? ⟨w.heap.size + 2, 6, none⟩ = false := by
  have hb := h.big
  have hmb : W'.heap[w.heap.size + 2]? = W.heap[w.heap.size + 2]? := hg.block _ (by omega) (fun e => by have := (h.args.2.lt _ e.symm).1; omega)
  have h1 := h.box.2 6 (by simp [Nc])
  rw [World.cell?_of_block (w := W) (a := ⟨w.heap.size + 2, 6, none⟩) hmb, World.frozen?_of_block (w := W) (a := ⟨w.heap.size + 2, 6, none⟩) hmb]
  exact ⟨h1.1, h1.2⟩
theorem rdMem_one {j : Nat} {bs : List Nat} : rdMem (j + 1) (bs, false) = (((rdInt bs false).1, (rdInt (rdInt bs false).2.1 (rdInt bs false).2.2).1) :: (rdMem j (rdInt (rdInt bs false).2.1 (rdInt bs false).2.2).2).1, (rdMem j (rdInt (rdInt bs false).2.1 (rdInt bs false).2.2).2).2) := by simp [rdMem]
end Go.Proofs.Ytgkpioleipefmaa
