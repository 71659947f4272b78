/- Notes by their parts, plain: as the program goes. -/
import Derived.Test.YtgkpioleipefmaaNoP
namespace Go.Proofs.Ytgkpioleipefmaa

/-- What a note of that kind has, in the order in which it is written. -/
def partsL (k : Int) : List Nat :=
  if k = 1 then [0, 1] else if k = 2 then [7] else if k = 3 then [2, 0] else if k = 4 then [2, 1, 3, 4, 5] else if k = 5 ∨ k = 6 then [2, 1, 0, 3] else if k = 7 then [2, 0, 3, 6] else if k = 8 then [3, 6] else if k = 9 then [0, 3]
  else if k = 10 then [2, 0, 3, 4, 5] else []

theorem kinds {k : Int} (h : isKind k = true) : k = 1 ∨ k = 2 ∨ k = 3 ∨ k = 4 ∨ k = 5 ∨ k = 6 ∨ k = 7 ∨ k = 8 ∨ k = 9 ∨ k = 10 := by
  simp [isKind] at h; omega
theorem parts_no {k : Int} (h : isKind k = false) : partsL k = [] := by
  have h' : ¬ (1 ≤ k ∧ k ≤ 10) := by simpa [isKind] using h
  unfold partsL
  repeat rw [if_neg (by omega)]
theorem parts_len (k : Int) : (partsL k).length ≤ 5 ∧ ((partsL k).length = 0 ↔ isKind k = false) := by
  by_cases h : isKind k = true
  · rcases kinds h with rfl | rfl | rfl | rfl | rfl | rfl | rfl | rfl | rfl | rfl <;> simp [partsL, isKind]
  · have h' : isKind k = false := by simpa using h
    rw [parts_no h']; simp [h']
theorem parts_lt (k : Int) : ∀ p ∈ partsL k, p < 8 := by
  by_cases h : isKind k = true
  · rcases kinds h with rfl | rfl | rfl | rfl | rfl | rfl | rfl | rfl | rfl | rfl <;> simp [partsL]
  · rw [parts_no (by simpa using h)]; intro p hp; cases hp

/-- One part of n, put into o. -/
def setP (p : Nat) (n o : No) : No :=
  match p with
  | 0 => { o with node := n.node }
  | 1 => { o with life := n.life }
  | 2 => { o with epoch := n.epoch }
  | 3 => { o with id := n.id }
  | 4 => { o with func := n.func }
  | 5 => { o with args := o.args ++ n.args }
  | 6 => { o with err := n.err, val := n.val }
  | 7 => { o with vep := n.vep, mem := o.mem ++ n.mem }
  | _ => o
def onlyN (n : No) (ps : List Nat) : No := ps.foldl (fun o p => setP p n o) ⟨n.kind, 0, 0, 0, [], 0, [], 0, 0, 0, []⟩
theorem only_step (n : No) (ps : List Nat) (k : Nat) (h : k < ps.length) : onlyN n (ps.take (k + 1)) = setP ps[k] n (onlyN n (ps.take k)) := by
  rw [List.take_succ_eq_append_getElem h]; simp only [onlyN, List.foldl_append, List.foldl_cons, List.foldl_nil]
theorem only_clear (n : No) (h : isKind n.kind = true) : onlyN n (partsL n.kind) = clearN n := by
  obtain ⟨k, a, b, c, d, e, f, g, i, j, l⟩ := n
  simp only at h
  rcases kinds h with rfl | rfl | rfl | rfl | rfl | rfl | rfl | rfl | rfl | rfl <;>
    simp [onlyN, partsL, setP, clearN, isKind, hasNode, hasLife, hasEpoch, hasId, hasFunc, hasRes, hasView]
theorem clear_no (n : No) (h : isKind n.kind = false) : clearN n = no0 := by
  unfold clearN; rw [if_neg (by simp [h])]
theorem clear_kind (n : No) : (clearN n).kind = if isKind n.kind = true then n.kind else 0 := by
  unfold clearN; split <;> rfl

/-- The bytes of one part. -/
def encP (n : No) (p : Nat) : List Nat :=
  match p with
  | 0 => encI n.node
  | 1 => encI n.life
  | 2 => encI n.epoch
  | 3 => encT n.id
  | 4 => encI n.func
  | 5 => encI n.args.length ++ encs n.args
  | 6 => encI n.err ++ encI n.val
  | 7 => encI n.vep ++ (encI n.mem.length ++ encM n.mem)
  | _ => []
def encPs (n : No) (ps : List Nat) : List Nat := ps.flatMap (encP n)
theorem encPs_step (n : No) (ps : List Nat) (k : Nat) (h : k < ps.length) : encPs n (ps.take (k + 1)) = encPs n (ps.take k) ++ encP n ps[k] := by
  rw [List.take_succ_eq_append_getElem h]; simp only [encPs, List.flatMap_append, List.flatMap_cons, List.flatMap_nil, List.append_nil]
theorem enc_parts (n : No) (h : isKind n.kind = true) : encI n.kind ++ encPs n (partsL n.kind) = encN n := by
  obtain ⟨k, a, b, c, d, e, f, g, i, j, l⟩ := n
  simp only at h
  rcases kinds h with rfl | rfl | rfl | rfl | rfl | rfl | rfl | rfl | rfl | rfl <;>
    simp [encPs, encP, partsL, encN, hasNode, hasLife, hasEpoch, hasId, hasFunc, hasRes, hasView]

/-- So many things as are told ahead of them. -/
def rdLi (s : List Nat × Bool) : List Int × List Nat × Bool :=
  let c := rdCnt s.1 s.2
  let r := rdMany c.1 c.2
  if r.2.2 = true then ([], r.2) else r
def rdLm (s : List Nat × Bool) : List (Int × Int) × List Nat × Bool :=
  let c := rdCnt s.1 s.2
  let r := rdMem c.1 c.2
  if r.2.2 = true then ([], r.2) else r
/-- One part is read. -/
def rdPart (p : Nat) (x : No × List Nat × Bool) : No × List Nat × Bool :=
  match p with
  | 0 => ({ x.1 with node := (rdInt x.2.1 x.2.2).1 }, (rdInt x.2.1 x.2.2).2)
  | 1 => ({ x.1 with life := (rdInt x.2.1 x.2.2).1 }, (rdInt x.2.1 x.2.2).2)
  | 2 => ({ x.1 with epoch := (rdInt x.2.1 x.2.2).1 }, (rdInt x.2.1 x.2.2).2)
  | 3 => ({ x.1 with id := (rdBytes x.2.1 x.2.2).1 }, (rdBytes x.2.1 x.2.2).2)
  | 4 => ({ x.1 with func := (rdInt x.2.1 x.2.2).1 }, (rdInt x.2.1 x.2.2).2)
  | 5 => ({ x.1 with args := (rdLi x.2).1 }, (rdLi x.2).2)
  | 6 => ({ x.1 with err := (rdInt x.2.1 x.2.2).1, val := (rdInt (rdInt x.2.1 x.2.2).2.1 (rdInt x.2.1 x.2.2).2.2).1 }, (rdInt (rdInt x.2.1 x.2.2).2.1 (rdInt x.2.1 x.2.2).2.2).2)
  | 7 => ({ x.1 with vep := (rdInt x.2.1 x.2.2).1, mem := (rdLm (rdInt x.2.1 x.2.2).2).1 }, (rdLm (rdInt x.2.1 x.2.2).2).2)
  | _ => x
def rdPs (ps : List Nat) (x : No × List Nat × Bool) : No × List Nat × Bool := ps.foldl (fun x p => rdPart p x) x
theorem rdPs_step (ps : List Nat) (x : No × List Nat × Bool) (k : Nat) (h : k < ps.length) : rdPs (ps.take (k + 1)) x = rdPart ps[k] (rdPs (ps.take k) x) := by
  rw [List.take_succ_eq_append_getElem h]; simp only [rdPs, List.foldl_append, List.foldl_cons, List.foldl_nil]
def rdC (bs : List Nat) : No × List Nat × Bool := rdPs (partsL (rdInt bs false).1) (⟨(rdInt bs false).1, 0, 0, 0, [], 0, [], 0, 0, 0, []⟩, (rdInt bs false).2)
/-- What Read answers. -/
def okC (bs : List Nat) : Bool := !(rdC bs).2.2 && decide ((rdC bs).2.1 = []) && mayN (rdC bs).1

theorem rdCnt_enc (n : Nat) (r : List Nat) (h : n ≤ r.length) (hn : (n : Int) ≤ 9223372036854775807) : rdCnt (encI (n : Int) ++ r) false = (n, r, false) := by
  unfold rdCnt
  rw [rdInt_I (n : Int) r (by unfold In1; omega)]
  rw [if_neg (by simp; omega)]
  simp
theorem encs_ge (l : List Int) : l.length ≤ (encs l).length := by
  induction l with
  | nil => simp
  | cons n l ih =>
    have e : encs (n :: l) = encI n ++ encs l := by simp [encs, encI]
    have := (encI_len n).1
    rw [e]; simp only [List.length_append, List.length_cons]; omega
theorem encM_ge (l : List (Int × Int)) : l.length ≤ (encM l).length := by
  induction l with
  | nil => simp
  | cons m l ih =>
    have e : encM (m :: l) = encI m.1 ++ (encI m.2 ++ encM l) := by simp [encM]
    have := (encI_len m.1).1
    rw [e]; simp only [List.length_append, List.length_cons]; omega
theorem rdLi_enc (l : List Int) (r : List Nat) (h : In64 l) (hl : (l.length : Int) ≤ 9223372036854775807) : rdLi (encI l.length ++ (encs l ++ r), false) = (l, r, false) := by
  unfold rdLi
  rw [rdCnt_enc l.length _ (by have := encs_ge l; simp; omega) hl]
  simp only
  rw [rdMany_enc l r h]
  rfl
theorem rdLm_enc (l : List (Int × Int)) (r : List Nat) (h : ∀ m ∈ l, In1 m.1 ∧ In1 m.2) (hl : (l.length : Int) ≤ 9223372036854775807) : rdLm (encI l.length ++ (encM l ++ r), false) = (l, r, false) := by
  unfold rdLm
  rw [rdCnt_enc l.length _ (by have := encM_ge l; simp; omega) hl]
  simp only
  rw [rdMem_enc l r h]
  rfl

/-- A note that may be is read as it was. -/
theorem rdC_enc (n : No) (hm : mayN n = true) (hc : clearN n = n) (hv : In1 n.val) (ha : In64 n.args) : rdC (encN n) = (n, [], false) := by
  obtain ⟨hk, k1, nd, lf, ep, idl, fu, na, er, ve, ml, mm⟩ := may_parts hm
  obtain ⟨kind, node, life, epoch, id, func, args, err, val, vep, mem⟩ := n
  simp only at *
  have a0 : ∀ k : Int, In1 k → ∀ r, rdInt (encI k ++ r) false = (k, r, false) := fun k h r => rdInt_I k r h
  have a1 := a0 node nd
  have a2 := a0 life lf
  have a3 := a0 epoch ep
  have a4 := a0 func fu
  have a5 := a0 err er
  have a7 := a0 vep ve
  have z : ∀ k : Int, In1 k → rdInt (encI k) false = (k, [], false) := fun k h => by have := a0 k h []; simpa using this
  have z1 := z node nd
  have z2 := z life lf
  have z6 := z val hv
  have b1 : ∀ r, rdBytes (encT id ++ r) false = (id, r, false) := fun r => rdBytes_enc id r (by omega)
  have b1z : rdBytes (encT id) false = (id, [], false) := by have := b1 []; simpa using this
  have b2 : rdLi (encI args.length ++ encs args, false) = (args, [], false) := by have := rdLi_enc args [] ha (by omega); simpa using this
  have b3 : rdLm (encI mem.length ++ encM mem, false) = (mem, [], false) := by have := rdLm_enc mem [] mm (by omega); simpa using this
  have a00 := a0 kind k1
  rcases kinds hk with rfl | rfl | rfl | rfl | rfl | rfl | rfl | rfl | rfl | rfl
  all_goals
    simp only [clearN, isKind, hasNode, hasLife, hasEpoch, hasId, hasFunc, hasRes, hasView] at hc
    simp at hc
    simp [rdC, rdPs, rdPart, partsL, encN, hasNode, hasLife, hasEpoch, hasId, hasFunc, hasRes, hasView, a00, a1, a2, a3, a4, a5, a7, z1, z2, z6, b1, b1z, b2, b3, hc]
    try omega

theorem rdCnt_back {bs : List Nat} {b : Bool} {n : Nat} {r : List Nat} (hB : Byt bs) (h : rdCnt bs b = (n, r, false)) : b = false ∧ bs = encI (n : Int) ++ r ∧ Byt r := by
  unfold rdCnt at h
  obtain ⟨⟨v, s, c⟩, e⟩ : ∃ z, rdInt bs b = z := ⟨_, rfl⟩
  rw [e] at h
  simp only at h
  split at h
  · simp at h
  · simp only [Prod.mk.injEq] at h
    obtain ⟨rfl, rfl, rfl⟩ := h
    obtain ⟨h1, h2, h3, _⟩ := rdInt_back _ _ _ _ hB e
    refine ⟨h1, ?_, h3⟩
    rw [show ((v.toNat : Nat) : Int) = v by omega]
    exact h2
theorem rdMany_back {k : Nat} {bs : List Nat} {b : Bool} {l : List Int} {r : List Nat} (hB : Byt bs) (h : rdMany k (bs, b) = (l, r, false)) : b = false ∧ bs = encs l ++ r ∧ Byt r ∧ l.length = k := by
  induction k generalizing bs b l with
  | zero => simp [rdMany] at h; obtain ⟨rfl, rfl, rfl⟩ := h; exact ⟨rfl, by simp [encs], hB, rfl⟩
  | succ k ih =>
    cases b with
    | true => simp [rdMany] at h
    | false =>
      simp only [rdMany] at h
      obtain ⟨⟨v, s, c⟩, e⟩ : ∃ z, rdInt bs false = z := ⟨_, rfl⟩
      rw [e] at h
      simp only [Bool.false_eq_true, if_false] at h
      obtain ⟨⟨l', r', b'⟩, e'⟩ : ∃ z, rdMany k (s, c) = z := ⟨_, rfl⟩
      rw [e'] at h
      simp only [Prod.mk.injEq] at h
      obtain ⟨rfl, rfl, rfl⟩ := h
      obtain ⟨rfl, q1, q2, q3⟩ := ih (rdInt_byt hB e) e'
      obtain ⟨_, p1, _⟩ := rdInt_back _ _ _ _ hB e
      refine ⟨rfl, ?_, q2, by simp [q3]⟩
      rw [p1, q1]; simp [encs]
theorem rdMem_back {k : Nat} {bs : List Nat} {b : Bool} {l : List (Int × Int)} {r : List Nat} (hB : Byt bs) (h : rdMem k (bs, b) = (l, r, false)) : b = false ∧ bs = encM l ++ r ∧ Byt r ∧ l.length = k := by
  induction k generalizing bs b l with
  | zero => simp [rdMem] at h; obtain ⟨rfl, rfl, rfl⟩ := h; exact ⟨rfl, by simp [encM], hB, rfl⟩
  | succ k ih =>
    cases b with
    | true => simp [rdMem] at h
    | false =>
      simp only [rdMem] at h
      obtain ⟨⟨v, s, c⟩, e⟩ : ∃ z, rdInt bs false = z := ⟨_, rfl⟩
      rw [e] at h
      simp only [Bool.false_eq_true, if_false] at h
      obtain ⟨⟨v2, s2, c2⟩, e2⟩ : ∃ z, rdInt s c = z := ⟨_, rfl⟩
      rw [e2] at h
      simp only at h
      obtain ⟨⟨l', r', b'⟩, e'⟩ : ∃ z, rdMem k (s2, c2) = z := ⟨_, rfl⟩
      rw [e'] at h
      simp only [Prod.mk.injEq] at h
      obtain ⟨rfl, rfl, rfl⟩ := h
      have hs := rdInt_byt hB e
      obtain ⟨rfl, q1, q2, q3⟩ := ih (rdInt_byt hs e2) e'
      obtain ⟨rfl, p2, _⟩ := rdInt_back _ _ _ _ hs e2
      obtain ⟨_, p1, _⟩ := rdInt_back _ _ _ _ hB e
      refine ⟨rfl, ?_, q2, by simp [q3]⟩
      rw [p1, p2, q1]; simp [encM, encI]
theorem rdLi_back {s : List Nat × Bool} {l : List Int} {r : List Nat} (hB : Byt s.1) (h : rdLi s = (l, r, false)) : s.2 = false ∧ s.1 = encI l.length ++ (encs l ++ r) ∧ Byt r := by
  obtain ⟨bs, b⟩ := s
  simp only at hB
  unfold rdLi at h
  obtain ⟨⟨n, t, c⟩, e⟩ : ∃ z, rdCnt bs b = z := ⟨_, rfl⟩
  simp only [e] at h
  obtain ⟨⟨l', r', b'⟩, e'⟩ : ∃ z, rdMany n (t, c) = z := ⟨_, rfl⟩
  rw [e'] at h
  cases b' with
  | true => simp at h
  | false =>
    simp at h
    obtain ⟨rfl, rfl⟩ := h
    have hBt : Byt t := by
      cases c with
      | false => exact (rdCnt_back hB e).2.2
      | true => cases n with
        | zero => simp [rdMany] at e'
        | succ n => simp [rdMany] at e'
    obtain ⟨rfl, q1, q2, q3⟩ := rdMany_back hBt e'
    obtain ⟨rfl, p1, _⟩ := rdCnt_back hB e
    exact ⟨rfl, by rw [q3, ← q1]; exact p1, q2⟩
theorem rdLm_back {s : List Nat × Bool} {l : List (Int × Int)} {r : List Nat} (hB : Byt s.1) (h : rdLm s = (l, r, false)) : s.2 = false ∧ s.1 = encI l.length ++ (encM l ++ r) ∧ Byt r := by
  obtain ⟨bs, b⟩ := s
  simp only at hB
  unfold rdLm at h
  obtain ⟨⟨n, t, c⟩, e⟩ : ∃ z, rdCnt bs b = z := ⟨_, rfl⟩
  simp only [e] at h
  obtain ⟨⟨l', r', b'⟩, e'⟩ : ∃ z, rdMem n (t, c) = z := ⟨_, rfl⟩
  rw [e'] at h
  cases b' with
  | true => simp at h
  | false =>
    simp at h
    obtain ⟨rfl, rfl⟩ := h
    have hBt : Byt t := by
      cases c with
      | false => exact (rdCnt_back hB e).2.2
      | true => cases n with
        | zero => simp [rdMem] at e'
        | succ n => simp [rdMem] at e'
    obtain ⟨rfl, q1, q2, q3⟩ := rdMem_back hBt e'
    obtain ⟨rfl, p1, _⟩ := rdCnt_back hB e
    exact ⟨rfl, by rw [q3, ← q1]; exact p1, q2⟩

/-- Two notes have the same part. -/
def agree (p : Nat) (a b : No) : Prop :=
  match p with
  | 0 => a.node = b.node
  | 1 => a.life = b.life
  | 2 => a.epoch = b.epoch
  | 3 => a.id = b.id
  | 4 => a.func = b.func
  | 5 => a.args = b.args
  | 6 => a.err = b.err ∧ a.val = b.val
  | 7 => a.vep = b.vep ∧ a.mem = b.mem
  | _ => True
theorem agree_refl (p : Nat) (a : No) : agree p a a := by unfold agree; split <;> simp
theorem agree_trans {p : Nat} {a b c : No} (h : agree p a b) (k : agree p b c) : agree p a c := by
  unfold agree at *
  split <;> simp_all
theorem agree_enc {p : Nat} {a b : No} (h : agree p a b) : encP a p = encP b p := by
  unfold agree at h
  unfold encP
  split at h <;> simp_all

theorem rdPart_keep (p : Nat) (x : No × List Nat × Bool) : (rdPart p x).1.kind = x.1.kind ∧ ∀ q, q ≠ p → agree q (rdPart p x).1 x.1 := by
  refine ⟨by unfold rdPart; split <;> rfl, fun q hq => ?_⟩
  unfold rdPart
  split
  all_goals
    unfold agree
    split <;> first | rfl | exact ⟨rfl, rfl⟩ | trivial | exact absurd rfl hq
theorem rdMany_in2 (k : Nat) (s : List Nat × Bool) : In64 (rdMany k s).1 := rdMany_in k s
theorem rdLi_in (s : List Nat × Bool) : In64 (rdLi s).1 := by
  unfold rdLi
  simp only
  split
  · intro n hn; cases hn
  · exact rdMany_in _ _
theorem rdPart_in (p : Nat) (x : No × List Nat × Bool) (h : In64 x.1.args ∧ In1 x.1.val) : In64 (rdPart p x).1.args ∧ In1 (rdPart p x).1.val := by
  unfold rdPart
  split <;> first | exact h | exact ⟨rdLi_in _, h.2⟩ | exact ⟨h.1, rdInt_in _ _⟩
theorem rdPart_back {p : Nat} {x : No × List Nat × Bool} {o : No} {r : List Nat} (hp : p < 8) (hB : Byt x.2.1) (h : rdPart p x = (o, r, false)) : x.2.2 = false ∧ x.2.1 = encP o p ++ r ∧ Byt r := by
  obtain ⟨n, bs, b⟩ := x
  simp only at hB
  have two : ∀ (v : Int) (r : List Nat), rdInt bs b = (v, r, false) → b = false ∧ bs = encI v ++ r ∧ Byt r := fun v r e => by
    obtain ⟨h1, h2, h3, _⟩ := rdInt_back _ _ _ _ hB e; exact ⟨h1, h2, h3⟩
  rcases (by omega : p = 0 ∨ p = 1 ∨ p = 2 ∨ p = 3 ∨ p = 4 ∨ p = 5 ∨ p = 6 ∨ p = 7) with rfl | rfl | rfl | rfl | rfl | rfl | rfl | rfl
  all_goals simp only [rdPart, Prod.mk.injEq] at h
  · obtain ⟨rfl, h⟩ := h; exact two _ _ (by rw [← h])
  · obtain ⟨rfl, h⟩ := h; exact two _ _ (by rw [← h])
  · obtain ⟨rfl, h⟩ := h; exact two _ _ (by rw [← h])
  · obtain ⟨rfl, h⟩ := h
    obtain ⟨h1, h2, _, h3⟩ := rdBytes_back bs b (rdBytes bs b).1 r hB (by rw [← h])
    exact ⟨h1, h2, h3⟩
  · obtain ⟨rfl, h⟩ := h; exact two _ _ (by rw [← h])
  · obtain ⟨rfl, h⟩ := h
    obtain ⟨h1, h2, h3⟩ := rdLi_back (s := (bs, b)) (l := (rdLi (bs, b)).1) (r := r) hB (by rw [← h])
    exact ⟨h1, by simpa [encP] using h2, h3⟩
  · obtain ⟨rfl, h⟩ := h
    obtain ⟨⟨v, s, c⟩, e⟩ : ∃ z, rdInt bs b = z := ⟨_, rfl⟩
    rw [e] at h ⊢
    simp only at h
    have hs := rdInt_byt hB e
    obtain ⟨rfl, q1, q2, _⟩ := rdInt_back s c (rdInt s c).1 r hs (by rw [← h])
    obtain ⟨p1, p2, _⟩ := two _ _ e
    refine ⟨p1, ?_, q2⟩
    rw [p2]
    conv => lhs; rw [q1]
    simp [encP, encI]
  · obtain ⟨rfl, h⟩ := h
    obtain ⟨⟨v, s, c⟩, e⟩ : ∃ z, rdInt bs b = z := ⟨_, rfl⟩
    rw [e] at h ⊢
    simp only at h
    have hs := rdInt_byt hB e
    obtain ⟨q0, q1, q2⟩ := rdLm_back (s := (s, c)) (l := (rdLm (s, c)).1) (r := r) hs (by rw [← h])
    simp only at q0 q1
    subst q0
    obtain ⟨p1, p2, _⟩ := two _ _ e
    refine ⟨p1, ?_, q2⟩
    rw [p2]
    conv => lhs; rw [q1]
    simp [encP]

theorem rdPart_byt {p : Nat} {x : No × List Nat × Bool} (hB : Byt x.2.1) (h : (rdPart p x).2.2 = false) (hp : p < 8) : Byt (rdPart p x).2.1 := by
  obtain ⟨⟨o, r, b⟩, e⟩ : ∃ z, rdPart p x = z := ⟨_, rfl⟩
  rw [e] at h ⊢
  simp only at h
  subst h
  exact (rdPart_back hp hB e).2.2
theorem rdMany_bad (k : Nat) (bs : List Nat) : (rdMany k (bs, true)).2.2 = true := by cases k <;> simp [rdMany]
theorem rdMem_bad (k : Nat) (bs : List Nat) : (rdMem k (bs, true)).2.2 = true := by cases k <;> simp [rdMem]
theorem rdInt_stays (bs : List Nat) : (rdInt bs true).2.2 = true := by
  unfold rdInt; cases dec bs <;> rfl
theorem rdCnt_stays (bs : List Nat) : (rdCnt bs true).2.2 = true := by
  unfold rdCnt; split
  · rfl
  · exact rdInt_stays bs
theorem rdLi_stays (bs : List Nat) : (rdLi (bs, true)).2.2 = true := by
  unfold rdLi
  simp only
  obtain ⟨⟨n, t, c⟩, e⟩ : ∃ z, rdCnt bs true = z := ⟨_, rfl⟩
  have := rdCnt_stays bs
  rw [e] at this ⊢
  simp only at this
  subst this
  rw [if_pos (rdMany_bad n t)]
  exact rdMany_bad n t
theorem rdLm_stays (bs : List Nat) : (rdLm (bs, true)).2.2 = true := by
  unfold rdLm
  simp only
  obtain ⟨⟨n, t, c⟩, e⟩ : ∃ z, rdCnt bs true = z := ⟨_, rfl⟩
  have := rdCnt_stays bs
  rw [e] at this ⊢
  simp only at this
  subst this
  rw [if_pos (rdMem_bad n t)]
  exact rdMem_bad n t
theorem rdPart_stays (p : Nat) (o : No) (bs : List Nat) : (rdPart p (o, bs, true)).2.2 = true := by
  have i := rdInt_stays bs
  unfold rdPart
  split
  · exact i
  · exact i
  · exact i
  · show (rdBytes bs true).2.2 = true
    rw [rdBytes_cnt]; exact rdCnt_stays bs
  · exact i
  · exact rdLi_stays bs
  · show (rdInt (rdInt bs true).2.1 (rdInt bs true).2.2).2.2 = true
    rw [i]; exact rdInt_stays _
  · show (rdLm (rdInt bs true).2).2.2 = true
    obtain ⟨⟨v, s, c⟩, e⟩ : ∃ z, rdInt bs true = z := ⟨_, rfl⟩
    rw [e] at i ⊢
    simp only at i
    subst i
    exact rdLm_stays s
  · rfl
theorem rdPs_stays (ps : List Nat) (o : No) (bs : List Nat) : (rdPs ps (o, bs, true)).2.2 = true := by
  induction ps generalizing o bs with
  | nil => rfl
  | cons p ps ih =>
    show (rdPs ps (rdPart p (o, bs, true))).2.2 = true
    obtain ⟨⟨o1, r1, b1⟩, e⟩ : ∃ z, rdPart p (o, bs, true) = z := ⟨_, rfl⟩
    have := rdPart_stays p o bs
    rw [e] at this ⊢
    simp only at this
    subst this
    exact ih o1 r1

theorem rdPs_back {ps : List Nat} {o n : No} {bs r : List Nat} {b : Bool} (hn : ps.Nodup) (hp : ∀ p ∈ ps, p < 8) (hB : Byt bs) (h : rdPs ps (o, bs, b) = (n, r, false)) :
    bs = encPs n ps ++ r ∧ Byt r ∧ n.kind = o.kind ∧ (∀ q, q ∉ ps → agree q n o) ∧ ((In64 o.args ∧ In1 o.val) → In64 n.args ∧ In1 n.val) := by
  induction ps generalizing o bs b with
  | nil => simp [rdPs] at h; obtain ⟨rfl, rfl, rfl⟩ := h; exact ⟨by simp [encPs], hB, rfl, fun q _ => agree_refl q _, id⟩
  | cons p ps ih =>
    have h' : rdPs ps (rdPart p (o, bs, b)) = (n, r, false) := h
    obtain ⟨⟨o1, r1, b1⟩, e⟩ : ∃ z, rdPart p (o, bs, b) = z := ⟨_, rfl⟩
    have hk := rdPart_keep p (o, bs, b)
    have hi := rdPart_in p (o, bs, b)
    rw [e] at h' hk hi
    have hb1 : b1 = false := by
      cases b1 with
      | false => rfl
      | true => have := rdPs_stays ps o1 r1; rw [h'] at this; simp at this
    subst hb1
    obtain ⟨_, p1, p2⟩ := rdPart_back (hp p (by simp)) hB e
    obtain ⟨q1, q2, q3, q4, q5⟩ := ih (List.nodup_cons.1 hn).2 (fun q hq => hp q (by simp [hq])) p2 h'
    have hpn := q4 p (List.nodup_cons.1 hn).1
    refine ⟨?_, q2, q3.trans hk.1, fun q hq => ?_, fun hh => q5 (hi hh)⟩
    · simp only at p1
      rw [p1, q1, ← agree_enc hpn]; simp [encPs]
    · simp only [List.mem_cons, not_or] at hq
      exact agree_trans (q4 q hq.2) (hk.2 q hq.1)

theorem parts_nodup (k : Int) : (partsL k).Nodup := by
  by_cases h : isKind k = true
  · rcases kinds h with rfl | rfl | rfl | rfl | rfl | rfl | rfl | rfl | rfl | rfl <;> simp [partsL]
  · rw [parts_no (by simpa using h)]; exact List.nodup_nil

/-- What the program takes for a note is one. -/
theorem okC_note {bs : List Nat} (hB : Byt bs) (h : okC bs = true) : NoteOf bs (rdC bs).1 := by
  unfold okC at h
  simp only [Bool.and_eq_true, Bool.not_eq_true', decide_eq_true_eq] at h
  obtain ⟨⟨h1, h2⟩, h3⟩ := h
  obtain ⟨⟨n, r, b⟩, e⟩ : ∃ z, rdC bs = z := ⟨_, rfl⟩
  rw [e] at h1 h2 h3 ⊢
  simp only at h1 h2 h3
  subst h1 h2
  unfold rdC at e
  obtain ⟨⟨k, s, c⟩, e0⟩ : ∃ z, rdInt bs false = z := ⟨_, rfl⟩
  rw [e0] at e
  simp only at e
  have hs := rdInt_byt hB e0
  have hc : c = false := by
    cases c with
    | false => rfl
    | true => have := rdPs_stays (partsL k) ⟨k, 0, 0, 0, [], 0, [], 0, 0, 0, []⟩ s; rw [e] at this; simp at this
  subst hc
  obtain ⟨q1, q2, q3, q4, q5⟩ := rdPs_back (parts_nodup k) (parts_lt k) hs e
  obtain ⟨_, p1, _⟩ := rdInt_back _ _ _ _ hB e0
  simp only at q3
  have hk := (may_parts h3).1
  obtain ⟨r1, r2⟩ := q5 ⟨(fun n hn => by cases hn), by simp [In1]⟩
  refine ⟨h3, ?_, r2, r1, ?_⟩
  · obtain ⟨kind, node, life, epoch, id, func, args, err, val, vep, mem⟩ := n
    simp only at q3 hk
    subst q3
    have g := fun q h => q4 q h
    have g0 := g 0
    have g1 := g 1
    have g2 := g 2
    have g3 := g 3
    have g4 := g 4
    have g5 := g 5
    have g6 := g 6
    have g7 := g 7
    clear g q4 q5 e e0 q1 q2 p1 hs hB h3
    rcases kinds hk with rfl | rfl | rfl | rfl | rfl | rfl | rfl | rfl | rfl | rfl <;>
      simp [partsL, agree] at g0 g1 g2 g3 g4 g5 g6 g7 <;> simp [clearN, isKind, hasNode, hasLife, hasEpoch, hasId, hasFunc, hasRes, hasView, *]
  · rw [← enc_parts n hk, q3, p1, q1]; simp [encI]
theorem note_okC {bs : List Nat} {n : No} (h : NoteOf bs n) : rdC bs = (n, [], false) ∧ okC bs = true := by
  have e := rdC_enc n h.1 h.2.1 h.2.2.1 h.2.2.2.1
  rw [← h.2.2.2.2] at e
  refine ⟨e, ?_⟩
  unfold okC
  rw [e]
  simp [h.1]
end Go.Proofs.Ytgkpioleipefmaa
