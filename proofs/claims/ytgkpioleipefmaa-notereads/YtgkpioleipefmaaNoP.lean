/- Notes, plain: what is written, what is read; no beginning of a note's bytes is another's. -/
import Derived.Test.YtgkpioleipefmaaMixA
import Derived.Test.YtgkpioleipefmaaKid
namespace Go.Proofs.Ytgkpioleipefmaa
/-- Is it from nought to m? -/
def okN (m n : Int) : Bool := decide (0 ≤ n) && decide (n ≤ m)
theorem fold_unfold (u : Nat) : foldN (unfoldN u) = u := by
  unfold unfoldN foldN; split <;> split <;> omega
theorem unfold_range (u : Nat) (h : u < 18446744073709551616) : -9223372036854775808 ≤ unfoldN u ∧ unfoldN u ≤ 9223372036854775807 := by
  unfold unfoldN; split <;> omega

/-- A number that is read stands there as it is written. -/
theorem decI_back (f i u : Nat) (bs : List Nat) (v k : Nat) (hf : f + i = 9) (hB : Byt bs) (h : decI (f + 1) i u bs = some (v, k)) :
    ∃ c, v = u + c * 2 ^ (7 * i) ∧ bs.take (k - i) = encF f c ∧ (i = 0 ∨ 0 < c) := by
  induction f generalizing i u bs with
  | zero =>
    cases bs with
    | nil => simp [decI] at h
    | cons x r =>
      rw [decI] at h
      by_cases h9 : i = 9 ∧ 1 < x
      · rw [if_pos h9] at h; cases h
      · rw [if_neg h9] at h
        have hx : x ≤ 1 := by omega
        rw [if_neg (by omega)] at h
        by_cases h0 : 0 < i ∧ x = 0
        · rw [if_pos h0] at h; cases h
        · rw [if_neg h0] at h
          simp only [Option.some.injEq, Prod.mk.injEq] at h
          obtain ⟨h1, h2⟩ := h
          refine ⟨x, by rw [← h1, Nat.mod_eq_of_lt (by omega)], ?_, by omega⟩
          rw [← h2, show i + 1 - i = 1 from by omega]; rfl
  | succ f ih =>
    cases bs with
    | nil => simp [decI] at h
    | cons x r =>
      have hx := hB x (by simp)
      have hr : Byt r := fun y hy => hB y (by simp [hy])
      rw [decI] at h
      rw [if_neg (by omega)] at h
      by_cases h1 : 128 ≤ x
      · rw [if_pos h1] at h
        have hw := decI_width _ _ _ _ _ _ h
        obtain ⟨c, hv, ht, hc⟩ := ih (i + 1) _ r (by omega) hr h
        have hc0 : 0 < c := by omega
        refine ⟨x % 128 + 128 * c, ?_, ?_, .inr (by omega)⟩
        · rw [hv, show 7 * (i + 1) = 7 + 7 * i from by omega, Nat.pow_add, Nat.add_mul, Nat.add_assoc]
          congr 2
          rw [show (2 : Nat) ^ 7 = 128 from rfl, ← Nat.mul_assoc, Nat.mul_comm c 128]
        · rw [encF_great f _ (by omega), show k - i = (k - (i + 1)) + 1 from by omega, List.take_succ_cons, ht]
          rw [show (x % 128 + 128 * c) % 128 + 128 = x from by omega, show (x % 128 + 128 * c) / 128 = c from by omega]
      · rw [if_neg h1] at h
        by_cases h0 : 0 < i ∧ x = 0
        · rw [if_pos h0] at h; cases h
        · rw [if_neg h0] at h
          simp only [Option.some.injEq, Prod.mk.injEq] at h
          obtain ⟨h2, h3⟩ := h
          refine ⟨x, by rw [← h2, Nat.mod_eq_of_lt (by omega)], ?_, by omega⟩
          rw [← h3, show i + 1 - i = 1 from by omega, encF_small _ _ (by omega)]; rfl

theorem dec_back (bs : List Nat) (u k : Nat) (hB : Byt bs) (h : dec bs = some (u, k)) : bs = enc u ++ bs.drop k := by
  obtain ⟨c, hv, ht, _⟩ := decI_back 9 0 0 bs u k rfl hB h
  have e : u = c := by simpa using hv
  subst e
  have ht' : bs.take k = enc u := by simpa [enc] using ht
  rw [← ht', List.take_append_drop]

theorem rdInt_back (bs : List Nat) (bad : Bool) (n : Int) (r : List Nat) (hB : Byt bs) (h : rdInt bs bad = (n, r, false)) :
    bad = false ∧ bs = enc (foldN n) ++ r ∧ Byt r ∧ -9223372036854775808 ≤ n ∧ n ≤ 9223372036854775807 := by
  unfold rdInt at h
  cases hd : dec bs with
  | none => rw [hd] at h; simp at h
  | some uk =>
    obtain ⟨u, k⟩ := uk
    rw [hd] at h
    simp only [Prod.mk.injEq] at h
    obtain ⟨rfl, rfl, rfl⟩ := h
    have hf := dec_facts bs u k hd
    have hu := unfold_range u hf.1
    exact ⟨rfl, by rw [fold_unfold]; exact dec_back bs u k hB hd, hB.drop k, hu.1, hu.2⟩

theorem rdBytes_back (bs : List Nat) (bad : Bool) (x r : List Nat) (hB : Byt bs) (h : rdBytes bs bad = (x, r, false)) :
    bad = false ∧ bs = encT x ++ r ∧ Byt x ∧ Byt r := by
  obtain ⟨⟨n, s, b⟩, hR⟩ : ∃ z, rdInt bs bad = z := ⟨_, rfl⟩
  unfold rdBytes at h
  rw [hR] at h
  simp only at h
  by_cases hn : n < 0 ∨ (s.length : Int) < n
  · rw [if_pos hn] at h; simp at h
  · rw [if_neg hn] at h
    simp only [Prod.mk.injEq] at h
    obtain ⟨rfl, rfl, rfl⟩ := h
    obtain ⟨h1, h2, h3, _⟩ := rdInt_back bs bad n s hB hR
    refine ⟨h1, ?_, h3.take _, h3.drop _⟩
    have hl : ((s.take n.toNat).length : Int) = n := by simp; omega
    unfold encT
    rw [hl, List.append_assoc, List.take_append_drop]; exact h2

theorem okN_iff (m n : Int) : okN m n = true ↔ 0 ≤ n ∧ n ≤ m := by simp [okN]

theorem encs_byt {ns : List Int} (h : In64 ns) : Byt (encs ns) := by
  intro x hx
  simp only [encs, List.mem_flatMap] at hx
  obtain ⟨n, hn, hx⟩ := hx
  exact enc_byt n (h n hn).1 (h n hn).2 x hx

theorem rdInt_byt {bs : List Nat} {bad b : Bool} {n : Int} {r : List Nat} (h : Byt bs) (e : rdInt bs bad = (n, r, b)) : Byt r := by
  unfold rdInt at e
  cases hd : dec bs with
  | none => rw [hd] at e; simp at e; obtain ⟨_, rfl, _⟩ := e; intro y hy; cases hy
  | some uk => rw [hd] at e; simp at e; obtain ⟨_, rfl, _⟩ := e; exact h.drop _

theorem rdBytes_byt {bs : List Nat} {bad b : Bool} {x r : List Nat} (h : Byt bs) (e : rdBytes bs bad = (x, r, b)) : Byt x := by
  obtain ⟨⟨n, s, c⟩, hR⟩ : ∃ z, rdInt bs bad = z := ⟨_, rfl⟩
  have hs := rdInt_byt h hR
  unfold rdBytes at e
  rw [hR] at e
  simp only at e
  split at e
  · simp at e; obtain ⟨rfl, _⟩ := e; intro y hy; cases hy
  · simp at e; obtain ⟨rfl, _⟩ := e; exact hs.take _

/-- A note, plain. -/
structure No where
  kind : Int
  node : Int
  life : Int
  epoch : Int
  id : List Nat
  func : Int
  args : List Int
  err : Int
  val : Int
  vep : Int
  mem : List (Int × Int)

def no0 : No := ⟨0, 0, 0, 0, [], 0, [], 0, 0, 0, []⟩
def hasNode (k : Int) : Bool := k == 1 || k == 3 || k == 5 || k == 6 || k == 7 || k == 9 || k == 10
def hasLife (k : Int) : Bool := k == 1 || k == 4 || k == 5 || k == 6
def hasEpoch (k : Int) : Bool := k == 3 || k == 4 || k == 5 || k == 6 || k == 7 || k == 10
def hasId (k : Int) : Bool := decide (4 ≤ k)
def hasFunc (k : Int) : Bool := k == 4 || k == 10
def hasRes (k : Int) : Bool := k == 7 || k == 8
def hasView (k : Int) : Bool := k == 2
def isKind (k : Int) : Bool := decide (1 ≤ k) && decide (k ≤ 10)

/-- What its kind has alone. -/
def clearN (n : No) : No :=
  if isKind n.kind = true then
    ⟨n.kind, if hasNode n.kind then n.node else 0, if hasLife n.kind then n.life else 0, if hasEpoch n.kind then n.epoch else 0, if hasId n.kind then n.id else [], if hasFunc n.kind then n.func else 0,
      if hasFunc n.kind then n.args else [], if hasRes n.kind then n.err else 0, if hasRes n.kind then n.val else 0, if hasView n.kind then n.vep else 0, if hasView n.kind then n.mem else []⟩
  else no0

theorem clear_twice (n : No) : clearN (clearN n) = clearN n := by
  unfold clearN
  by_cases h : isKind n.kind = true
  · simp only [h, if_true]
    congr 1 <;> split <;> rfl
  · simp only [h, no0]
    rfl

def okNum (n : Int) : Bool := okN 2147483647 n
def okId (b : List Nat) : Bool := decide (b.length ≤ 12) && b.all fun x => decide (x < 16)
def okRes (e v : Int) : Bool := e == 0 || e == 25 || (decide (20 ≤ e) && decide (e < 25) && v == 0)
/-- Do the members rise by their nodes? -/
def rises : List (Int × Int) → Bool
  | [] => true
  | [_] => true
  | a :: b :: r => decide (a.1 < b.1) && rises (b :: r)
def okView (ep : Int) (l : List (Int × Int)) : Bool := okNum ep && decide (l.length ≤ 16) && (l.all fun m => okN 15 m.1 && okNum m.2) && rises l
/-- May such a note be (what its kind has)? -/
def mayN (n : No) : Bool := isKind n.kind && okN 15 n.node && okNum n.life && okNum n.epoch && okId n.id && okN 31 n.func && decide (n.args.length ≤ 8) && okRes n.err n.val && okView n.vep n.mem

def encI (n : Int) : List Nat := enc (foldN n)
def encM (l : List (Int × Int)) : List Nat := l.flatMap fun m => encI m.1 ++ encI m.2
/-- Its bytes. -/
def encN (n : No) : List Nat :=
  encI n.kind ++ ((if hasView n.kind then encI n.vep ++ (encI n.mem.length ++ encM n.mem) else []) ++ ((if hasEpoch n.kind then encI n.epoch else []) ++ ((if hasLife n.kind && !(n.kind == 1) then encI n.life else []) ++
    ((if hasNode n.kind then encI n.node else []) ++ ((if n.kind == 1 then encI n.life else []) ++ ((if hasId n.kind then encT n.id else []) ++ ((if hasRes n.kind then encI n.err ++ encI n.val else []) ++
      (if hasFunc n.kind then encI n.func ++ (encI n.args.length ++ encs n.args) else []))))))))

/-- A number is read where there is one. -/
def rdI (c : Bool) (s : List Nat × Bool) : Int × List Nat × Bool := if c then rdInt s.1 s.2 else (0, s)
def rdB (c : Bool) (s : List Nat × Bool) : List Nat × List Nat × Bool := if c then rdBytes s.1 s.2 else ([], s)
/-- So many numbers, as long as all goes well. -/
def rdMany : Nat → List Nat × Bool → List Int × List Nat × Bool
  | 0, s => ([], s)
  | k + 1, s => if s.2 then ([], s) else
    let a := rdInt s.1 s.2
    let r := rdMany k a.2
    (a.1 :: r.1, r.2)
/-- So many members. -/
def rdMem : Nat → List Nat × Bool → List (Int × Int) × List Nat × Bool
  | 0, s => ([], s)
  | k + 1, s => if s.2 then ([], s) else
    let a := rdInt s.1 s.2
    let b := rdInt a.2.1 a.2.2
    let r := rdMem k b.2
    ((a.1, b.1) :: r.1, r.2)

def In1 (n : Int) : Prop := -9223372036854775808 ≤ n ∧ n ≤ 9223372036854775807

theorem rdInt_I (n : Int) (r : List Nat) (h : In1 n) : rdInt (encI n ++ r) false = (n, r, false) := rdInt_enc n r h.1 h.2

theorem rdMany_enc (l : List Int) (r : List Nat) (h : In64 l) : rdMany l.length (encs l ++ r, false) = (l, r, false) := by
  induction l with
  | nil => rfl
  | cons n l ih =>
    have h1 := h n (by simp)
    have e : encs (n :: l) ++ r = encI n ++ (encs l ++ r) := by simp [encs, encI]
    rw [e]
    simp only [List.length_cons, rdMany, rdInt_I n _ h1, ih (fun m hm => h m (by simp [hm]))]
    simp

theorem rdMem_enc (l : List (Int × Int)) (r : List Nat) (h : ∀ m ∈ l, In1 m.1 ∧ In1 m.2) : rdMem l.length (encM l ++ r, false) = (l, r, false) := by
  induction l with
  | nil => rfl
  | cons m l ih =>
    have h1 := h m (by simp)
    have e : encM (m :: l) ++ r = encI m.1 ++ (encI m.2 ++ (encM l ++ r)) := by simp [encM]
    rw [e]
    simp only [List.length_cons, rdMem, rdInt_I _ _ h1.1, rdInt_I _ _ h1.2, ih (fun x hx => h x (by simp [hx]))]
    simp

/-- The document's reader: the fields in their order, at most cap things in a row. -/
def rdNote (cap : Nat) (bs : List Nat) : No × List Nat × Bool :=
  let k := rdInt bs false
  let ve := rdI (hasView k.1) k.2
  let vm := rdI (hasView k.1) ve.2
  let mem := rdMem (if hasView k.1 then min vm.1.toNat cap else 0) vm.2
  let ep := rdI (hasEpoch k.1) mem.2
  let l1 := rdI (hasLife k.1 && !(k.1 == 1)) ep.2
  let nd := rdI (hasNode k.1) l1.2
  let l2 := rdI (k.1 == 1) nd.2
  let id := rdB (hasId k.1) l2.2
  let er := rdI (hasRes k.1) id.2
  let va := rdI (hasRes k.1) er.2
  let fu := rdI (hasFunc k.1) va.2
  let na := rdI (hasFunc k.1) fu.2
  let ar := rdMany (if hasFunc k.1 then min na.1.toNat cap else 0) na.2
  (⟨k.1, nd.1, if k.1 == 1 then l2.1 else l1.1, ep.1, id.1, fu.1, ar.1, er.1, va.1, ve.1, mem.1⟩, ar.2)

theorem rdI_enc (c : Bool) (n : Int) (r : List Nat) (h : In1 n) : rdI c ((if c = true then encI n else []) ++ r, false) = (if c = true then n else 0, r, false) := by
  cases c
  · rfl
  · simp [rdI, rdInt_I n r h]

theorem rdB_enc (c : Bool) (b : List Nat) (r : List Nat) (h : b.length ≤ 9223372036854775807) : rdB c ((if c = true then encT b else []) ++ r, false) = (if c = true then b else [], r, false) := by
  cases c
  · rfl
  · simp [rdB, rdBytes_enc b r h]

theorem may_parts {n : No} (h : mayN n = true) : isKind n.kind = true ∧ In1 n.kind ∧ In1 n.node ∧ In1 n.life ∧ In1 n.epoch ∧ n.id.length ≤ 12 ∧ In1 n.func ∧ n.args.length ≤ 8 ∧ In1 n.err ∧ In1 n.vep ∧ n.mem.length ≤ 16 ∧ ∀ m ∈ n.mem, In1 m.1 ∧ In1 m.2 := by
  simp only [mayN, Bool.and_eq_true, okView, okId, okNum, okN_iff, isKind, decide_eq_true_eq, okRes, Bool.or_eq_true, beq_iff_eq, List.all_eq_true] at h
  obtain ⟨⟨⟨⟨⟨⟨⟨⟨k, nd⟩, lf⟩, ep⟩, ⟨idl, _⟩⟩, fu⟩, na⟩, re⟩, ⟨⟨⟨ve, ml⟩, mm⟩, _⟩⟩ := h
  unfold In1
  refine ⟨by simp [isKind]; omega, by omega, by omega, by omega, by omega, idl, by omega, na, by omega, by omega, ml, fun m hm => ?_⟩
  have := mm m hm
  omega

/-- A note that may be is read as it was, whatever stands behind it. -/
theorem rdNote_enc (cap : Nat) (hcap : 16 ≤ cap) (n : No) (r : List Nat) (hm : mayN n = true) (hc : clearN n = n) (hv : In1 n.val) (ha : In64 n.args) : rdNote cap (encN n ++ r) = (n, r, false) := by
  obtain ⟨hk, k1, nd, lf, ep, idl, fu, na, er, ve, ml, mm⟩ := may_parts hm
  obtain ⟨kind, node, life, epoch, id, func, args, err, val, vep, mem⟩ := n
  simp only at *
  have a0 : ∀ k : Int, In1 k → ∀ r, rdInt (encI k ++ r) false = (k, r, false) := fun k h r => rdInt_I k r h
  have a1 := a0 node nd
  have a2 := a0 life lf
  have a3 := a0 epoch ep
  have a4 := a0 func fu
  have a5 := a0 err er
  have a6 := a0 val hv
  have a7 := a0 vep ve
  have a8 := a0 (mem.length : Int) (by unfold In1; omega)
  have a9 := a0 (args.length : Int) (by unfold In1; omega)
  have b1 : ∀ r, rdBytes (encT id ++ r) false = (id, r, false) := fun r => rdBytes_enc id r (by omega)
  have b2 : ∀ r, rdMany args.length (encs args ++ r, false) = (args, r, false) := fun r => rdMany_enc args r ha
  have b3 : ∀ r, rdMem mem.length (encM mem ++ r, false) = (mem, r, false) := fun r => rdMem_enc mem r mm
  have m1 : min mem.length cap = mem.length := by omega
  have m2 : min args.length cap = args.length := by omega
  have hkk : kind = 1 ∨ kind = 2 ∨ kind = 3 ∨ kind = 4 ∨ kind = 5 ∨ kind = 6 ∨ kind = 7 ∨ kind = 8 ∨ kind = 9 ∨ kind = 10 := by
    simp [isKind] at hk; omega
  have a00 := a0 kind k1
  rcases hkk with rfl | rfl | rfl | rfl | rfl | rfl | rfl | rfl | rfl | rfl
  all_goals
    simp only [clearN, isKind, hasNode, hasLife, hasEpoch, hasId, hasFunc, hasRes, hasView] at hc
    simp at hc
    simp [rdNote, encN, hasNode, hasLife, hasEpoch, hasId, hasFunc, hasRes, hasView, rdI, rdB, rdMany, rdMem, List.append_assoc, a00, a1, a2, a3, a4, a5, a6, a7, a8, a9, b1, b2, b3, m1, m2, hc]
    try omega

/-- A note as bytes, and that these are just its own. -/
def NoteOf (bs : List Nat) (n : No) : Prop := mayN n = true ∧ clearN n = n ∧ In1 n.val ∧ In64 n.args ∧ bs = encN n

theorem note_one {bs : List Nat} {n m : No} (h : NoteOf bs n) (k : NoteOf bs m) : n = m := by
  have h1 := rdNote_enc 16 (Nat.le_refl _) n [] h.1 h.2.1 h.2.2.1 h.2.2.2.1
  have h2 := rdNote_enc 16 (Nat.le_refl _) m [] k.1 k.2.1 k.2.2.1 k.2.2.2.1
  rw [← h.2.2.2.2] at h1
  rw [← k.2.2.2.2, h1] at h2
  exact (Prod.mk.inj h2).1

/-- No note's bytes begin with another one's, but that there be nothing behind. -/
theorem note_ahead {bs s : List Nat} {n m : No} (h : NoteOf bs n) (k : NoteOf (bs ++ s) m) : s = [] := by
  have h1 := rdNote_enc 16 (Nat.le_refl _) n s h.1 h.2.1 h.2.2.1 h.2.2.2.1
  have h2 := rdNote_enc 16 (Nat.le_refl _) m [] k.1 k.2.1 k.2.2.1 k.2.2.2.1
  rw [← h.2.2.2.2] at h1
  rw [List.append_nil, ← k.2.2.2.2, h1] at h2
  exact (Prod.mk.inj (Prod.mk.inj h2).2).1

theorem encI_len (n : Int) : 1 ≤ (encI n).length ∧ (encI n).length ≤ 10 := encF_length 9 (foldN n)
theorem encN_pos (n : No) : 0 < (encN n).length := by
  have := (encI_len n.kind).1
  simp only [encN, List.length_append]
  omega
theorem encM_len (l : List (Int × Int)) : (encM l).length ≤ 20 * l.length := by
  induction l with
  | nil => simp [encM]
  | cons m l ih =>
    have h1 := (encI_len m.1).2
    have h2 := (encI_len m.2).2
    have e : encM (m :: l) = encI m.1 ++ (encI m.2 ++ encM l) := by simp [encM]
    rw [e]
    simp only [List.length_append, List.length_cons]
    omega
theorem rdInt_in (bs : List Nat) (bad : Bool) : In1 (rdInt bs bad).1 := by
  unfold rdInt
  cases hd : dec bs with
  | none => simp [In1]
  | some uk =>
    obtain ⟨u, k⟩ := uk
    exact unfold_range u (dec_facts bs u k hd).1
theorem rdI_in (c : Bool) (s : List Nat × Bool) : In1 (rdI c s).1 := by
  cases c
  · simp [rdI, In1]
  · exact rdInt_in s.1 s.2
theorem rdMany_in (k : Nat) (s : List Nat × Bool) : In64 (rdMany k s).1 := by
  induction k generalizing s with
  | zero => intro n hn; cases hn
  | succ k ih =>
    obtain ⟨bs, bad⟩ := s
    cases bad with
    | true => intro n hn; simp [rdMany] at hn
    | false =>
      intro n hn
      simp only [rdMany] at hn
      rcases List.mem_cons.1 hn with rfl | h
      · exact rdInt_in bs false
      · exact ih _ n h
theorem rdI_no {c : Bool} (h : c = false) (s : List Nat × Bool) : (rdI c s).1 = 0 := by subst h; rfl
theorem rdB_no {c : Bool} (h : c = false) (s : List Nat × Bool) : (rdB c s).1 = [] := by subst h; rfl

theorem if_zero {c : Bool} {x : Int} (h : c = false → x = 0) : (if c = true then x else 0) = x := by
  cases c
  · exact (h rfl).symm
  · rfl
theorem if_nil {α : Type} {c : Bool} {x : List α} (h : c = false → x = []) : (if c = true then x else []) = x := by
  cases c
  · exact (h rfl).symm
  · rfl

/-- The reader leaves nothing that the kind has not. -/
theorem rdNote_clear (cap : Nat) (bs : List Nat) (hk : isKind (rdNote cap bs).1.kind = true) : clearN (rdNote cap bs).1 = (rdNote cap bs).1 := by
  have h1 : ∀ k : Int, hasLife k = false → (k == 1) = false := by intro k h; simp [hasLife] at h; simp [h]
  unfold clearN
  rw [if_pos hk]
  unfold rdNote
  simp only
  congr 1
  · exact if_zero (fun h => rdI_no h _)
  · refine if_zero (fun h => ?_)
    have := h1 _ h
    rw [this, h]
    rfl
  · exact if_zero (fun h => rdI_no h _)
  · exact if_nil (fun h => rdB_no h _)
  · exact if_zero (fun h => rdI_no h _)
  · exact if_nil (fun h => by rw [h]; rfl)
  · exact if_zero (fun h => rdI_no h _)
  · exact if_zero (fun h => rdI_no h _)
  · exact if_zero (fun h => rdI_no h _)
  · exact if_nil (fun h => by rw [h]; rfl)

/-- What is read, may be and is written as these bytes is the note that they are. -/
theorem note_back {cap : Nat} {bs : List Nat} (hm : mayN (rdNote cap bs).1 = true) (he : encN (rdNote cap bs).1 = bs) : NoteOf bs (rdNote cap bs).1 := by
  have hk := (may_parts hm).1
  refine ⟨hm, rdNote_clear cap bs hk, ?_, ?_, he.symm⟩
  · exact rdI_in _ _
  · exact rdMany_in _ _

/-- The document's answer: the note that these bytes are, or none. -/
theorem note_read {cap : Nat} (hcap : 16 ≤ cap) (bs : List Nat) : (∃ n, NoteOf bs n) ↔ ((rdNote cap bs).2.2 = false ∧ mayN (rdNote cap bs).1 = true ∧ encN (rdNote cap bs).1 = bs) := by
  constructor
  · rintro ⟨n, h⟩
    have h1 := rdNote_enc cap hcap n [] h.1 h.2.1 h.2.2.1 h.2.2.2.1
    rw [List.append_nil, ← h.2.2.2.2] at h1
    rw [h1]
    exact ⟨rfl, h.1, h.2.2.2.2.symm⟩
  · rintro ⟨_, h2, h3⟩
    exact ⟨_, note_back h2 h3⟩
end Go.Proofs.Ytgkpioleipefmaa
