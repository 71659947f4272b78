/- Frames, plain: what is written, what is read, what becomes of bytes that are cut, longer or turned. -/
import Derived.Test.YtpieagcijfkpnaaDoorMixA
import Derived.Test.YtpieagcijfkpnaaDoorCrc
namespace Go.Proofs.YtpieagcijfkpnaaDoor

/-- A frame, plain. -/
structure Fr where
  fr : Int
  to : Int
  life : Int
  seq : Int
  ack : Int
  load : List Nat

/-- Is it from nought to m? -/
def okN (m n : Int) : Bool := decide (0 ≤ n) && decide (n ≤ m)
def Fr.nums (f : Fr) : List Int := [f.fr, f.to, f.life, f.seq, f.ack]
def Fr.ok (f : Fr) : Bool := okN 15 f.fr && okN 15 f.to && okN 2147483647 f.life && okN 2147483647 f.seq && okN 2147483647 f.ack
/-- Why there can be no such frame; nought: there can. -/
def wrongL (f : Fr) : Nat := if f.ok = true then (if 4096 < f.load.length then 3 else 0) else 1
def encFr (f : Fr) : List Nat := encs f.nums ++ encT f.load
def bodyL (f : Fr) : List Nat := 70 :: encFr f
/-- A sum as four bytes, the lowest first. -/
def tail4 (s : Nat) : List Nat := [s % 256, s / 256 % 256, s / 65536 % 256, s / 16777216 % 256]
def sealL (b : List Nat) : List Nat := b ++ tail4 (crcSum b)
def fr0 : Fr := ⟨0, 0, 0, 0, 0, []⟩
/-- The fields that stand first, what is left, whether it is bad. -/
def rdFrame (bs : List Nat) : Fr × List Nat × Bool :=
  let a := rdInt bs false
  let b := rdInt a.2.1 a.2.2
  let c := rdInt b.2.1 b.2.2
  let d := rdInt c.2.1 c.2.2
  let e := rdInt d.2.1 d.2.2
  let x := rdBytes e.2.1 e.2.2
  (⟨a.1, b.1, c.1, d.1, e.1, x.1⟩, x.2)
/-- The frame whose bytes these are, or what is wrong with them. -/
def readL (bs : List Nat) : Fr × Nat :=
  if bs.length < 5 ∨ bs.head? ≠ some 70 then (fr0, 4)
  else if bs.drop (bs.length - 4) ≠ tail4 (crcSum (bs.take (bs.length - 4))) then (fr0, 5)
  else if (rdFrame ((bs.take (bs.length - 4)).drop 1)).2.2 = true ∨ (rdFrame ((bs.take (bs.length - 4)).drop 1)).2.1 ≠ [] ∨ wrongL (rdFrame ((bs.take (bs.length - 4)).drop 1)).1 ≠ 0 then (fr0, 4)
  else ((rdFrame ((bs.take (bs.length - 4)).drop 1)).1, 0)

theorem fold_unfold (u : Nat) : foldN (unfoldN u) = u := by
  unfold unfoldN foldN; split <;> split <;> omega
theorem unfold_range (u : Nat) (h : u < 18446744073709551616) : -9223372036854775808 ≤ unfoldN u ∧ unfoldN u ≤ 9223372036854775807 := by
  unfold unfoldN; split <;> omega

/-- A number that is read stands there as it is written. -/
theorem decI_back (f i u : Nat) (bs : List Nat) (v k : Nat) (hf : f + i = 9) (hB : Byt bs) (h : decI (f + 1) i u bs = some (v, k)) :
    ∃ c, v = u + c * 2 ^ (7 * i) ∧ bs.take (k - i) = encF f c ∧ (i = 0 ∨ 0 < c) := by
  induction f generalizing i u bs with
  | zero =>
    cases bs with
    | nil => simp [decI] at h
    | cons x r =>
      rw [decI] at h
      by_cases h9 : i = 9 ∧ 1 < x
      · rw [if_pos h9] at h; cases h
      · rw [if_neg h9] at h
        have hx : x ≤ 1 := by omega
        rw [if_neg (by omega)] at h
        by_cases h0 : 0 < i ∧ x = 0
        · rw [if_pos h0] at h; cases h
        · rw [if_neg h0] at h
          simp only [Option.some.injEq, Prod.mk.injEq] at h
          obtain ⟨h1, h2⟩ := h
          refine ⟨x, by rw [← h1, Nat.mod_eq_of_lt (by omega)], ?_, by omega⟩
          rw [← h2, show i + 1 - i = 1 from by omega]; rfl
  | succ f ih =>
    cases bs with
    | nil => simp [decI] at h
    | cons x r =>
      have hx := hB x (by simp)
      have hr : Byt r := fun y hy => hB y (by simp [hy])
      rw [decI] at h
      rw [if_neg (by omega)] at h
      by_cases h1 : 128 ≤ x
      · rw [if_pos h1] at h
        have hw := decI_width _ _ _ _ _ _ h
        obtain ⟨c, hv, ht, hc⟩ := ih (i + 1) _ r (by omega) hr h
        have hc0 : 0 < c := by omega
        refine ⟨x % 128 + 128 * c, ?_, ?_, .inr (by omega)⟩
        · rw [hv, show 7 * (i + 1) = 7 + 7 * i from by omega, Nat.pow_add, Nat.add_mul, Nat.add_assoc]
          congr 2
          rw [show (2 : Nat) ^ 7 = 128 from rfl, ← Nat.mul_assoc, Nat.mul_comm c 128]
        · rw [encF_great f _ (by omega), show k - i = (k - (i + 1)) + 1 from by omega, List.take_succ_cons, ht]
          rw [show (x % 128 + 128 * c) % 128 + 128 = x from by omega, show (x % 128 + 128 * c) / 128 = c from by omega]
      · rw [if_neg h1] at h
        by_cases h0 : 0 < i ∧ x = 0
        · rw [if_pos h0] at h; cases h
        · rw [if_neg h0] at h
          simp only [Option.some.injEq, Prod.mk.injEq] at h
          obtain ⟨h2, h3⟩ := h
          refine ⟨x, by rw [← h2, Nat.mod_eq_of_lt (by omega)], ?_, by omega⟩
          rw [← h3, show i + 1 - i = 1 from by omega, encF_small _ _ (by omega)]; rfl

theorem dec_back (bs : List Nat) (u k : Nat) (hB : Byt bs) (h : dec bs = some (u, k)) : bs = enc u ++ bs.drop k := by
  obtain ⟨c, hv, ht, _⟩ := decI_back 9 0 0 bs u k rfl hB h
  have e : u = c := by simpa using hv
  subst e
  have ht' : bs.take k = enc u := by simpa [enc] using ht
  rw [← ht', List.take_append_drop]

theorem rdInt_back (bs : List Nat) (bad : Bool) (n : Int) (r : List Nat) (hB : Byt bs) (h : rdInt bs bad = (n, r, false)) :
    bad = false ∧ bs = enc (foldN n) ++ r ∧ Byt r ∧ -9223372036854775808 ≤ n ∧ n ≤ 9223372036854775807 := by
  unfold rdInt at h
  cases hd : dec bs with
  | none => rw [hd] at h; simp at h
  | some uk =>
    obtain ⟨u, k⟩ := uk
    rw [hd] at h
    simp only [Prod.mk.injEq] at h
    obtain ⟨rfl, rfl, rfl⟩ := h
    have hf := dec_facts bs u k hd
    have hu := unfold_range u hf.1
    exact ⟨rfl, by rw [fold_unfold]; exact dec_back bs u k hB hd, hB.drop k, hu.1, hu.2⟩

theorem rdBytes_back (bs : List Nat) (bad : Bool) (x r : List Nat) (hB : Byt bs) (h : rdBytes bs bad = (x, r, false)) :
    bad = false ∧ bs = encT x ++ r ∧ Byt x ∧ Byt r := by
  obtain ⟨⟨n, s, b⟩, hR⟩ : ∃ z, rdInt bs bad = z := ⟨_, rfl⟩
  unfold rdBytes at h
  rw [hR] at h
  simp only at h
  by_cases hn : n < 0 ∨ (s.length : Int) < n
  · rw [if_pos hn] at h; simp at h
  · rw [if_neg hn] at h
    simp only [Prod.mk.injEq] at h
    obtain ⟨rfl, rfl, rfl⟩ := h
    obtain ⟨h1, h2, h3, _⟩ := rdInt_back bs bad n s hB hR
    refine ⟨h1, ?_, h3.take _, h3.drop _⟩
    have hl : ((s.take n.toNat).length : Int) = n := by simp; omega
    unfold encT
    rw [hl, List.append_assoc, List.take_append_drop]; exact h2

theorem encs5 (a b c d e : Int) : encs [a, b, c, d, e] = enc (foldN a) ++ (enc (foldN b) ++ (enc (foldN c) ++ (enc (foldN d) ++ enc (foldN e)))) := by simp [encs]

theorem rdFrame_back (bs : List Nat) (f : Fr) (r : List Nat) (hB : Byt bs) (h : rdFrame bs = (f, r, false)) : bs = encFr f ++ r ∧ Byt f.load ∧ In64 f.nums := by
  unfold rdFrame at h
  obtain ⟨⟨n1, r1, b1⟩, e1⟩ : ∃ z, rdInt bs false = z := ⟨_, rfl⟩
  simp only [e1] at h
  obtain ⟨⟨n2, r2, b2⟩, e2⟩ : ∃ z, rdInt r1 b1 = z := ⟨_, rfl⟩
  simp only [e2] at h
  obtain ⟨⟨n3, r3, b3⟩, e3⟩ : ∃ z, rdInt r2 b2 = z := ⟨_, rfl⟩
  simp only [e3] at h
  obtain ⟨⟨n4, r4, b4⟩, e4⟩ : ∃ z, rdInt r3 b3 = z := ⟨_, rfl⟩
  simp only [e4] at h
  obtain ⟨⟨n5, r5, b5⟩, e5⟩ : ∃ z, rdInt r4 b4 = z := ⟨_, rfl⟩
  simp only [e5] at h
  obtain ⟨⟨x, r6, b6⟩, e6⟩ : ∃ z, rdBytes r5 b5 = z := ⟨_, rfl⟩
  simp only [e6, Prod.mk.injEq] at h
  obtain ⟨rfl, rfl, rfl⟩ := h
  have hl1 : Byt r1 := by
    have := e1; unfold rdInt at this
    cases hd : dec bs with
    | none => rw [hd] at this; simp at this; obtain ⟨_, rfl, _⟩ := this; intro y hy; cases hy
    | some uk => rw [hd] at this; simp at this; obtain ⟨_, rfl, _⟩ := this; exact hB.drop _
  have step : ∀ (r s : List Nat) (b c : Bool) (n : Int), Byt r → rdInt r b = (n, s, c) → Byt s := by
    intro r s b c n hr he
    unfold rdInt at he
    cases hd : dec r with
    | none => rw [hd] at he; simp at he; obtain ⟨_, rfl, _⟩ := he; intro y hy; cases hy
    | some uk => rw [hd] at he; simp at he; obtain ⟨_, rfl, _⟩ := he; exact hr.drop _
  have hl2 := step _ _ _ _ _ hl1 e2
  have hl3 := step _ _ _ _ _ hl2 e3
  have hl4 := step _ _ _ _ _ hl3 e4
  have hl5 := step _ _ _ _ _ hl4 e5
  obtain ⟨rfl, q6, g6, _⟩ := rdBytes_back _ _ _ _ hl5 e6
  obtain ⟨rfl, q5, _, i5⟩ := rdInt_back _ _ _ _ hl4 e5
  obtain ⟨rfl, q4, _, i4⟩ := rdInt_back _ _ _ _ hl3 e4
  obtain ⟨rfl, q3, _, i3⟩ := rdInt_back _ _ _ _ hl2 e3
  obtain ⟨rfl, q2, _, i2⟩ := rdInt_back _ _ _ _ hl1 e2
  obtain ⟨_, q1, _, i1⟩ := rdInt_back _ _ _ _ hB e1
  refine ⟨?_, g6, ?_⟩
  · show bs = encs [n1, n2, n3, n4, n5] ++ encT x ++ r6
    rw [encs5, q1, q2, q3, q4, q5, q6]; simp
  · intro n hn
    simp only [Fr.nums, List.mem_cons, List.not_mem_nil, or_false] at hn
    rcases hn with rfl | rfl | rfl | rfl | rfl
    · exact i1
    · exact i2
    · exact i3
    · exact i4
    · exact i5

theorem rdFrame_enc (f : Fr) (r : List Nat) (hi : In64 f.nums) (hl : f.load.length ≤ 9223372036854775807) : rdFrame (encFr f ++ r) = (f, r, false) := by
  obtain ⟨a, b, c, d, e, x⟩ := f
  have h1 := hi a (by simp [Fr.nums])
  have h2 := hi b (by simp [Fr.nums])
  have h3 := hi c (by simp [Fr.nums])
  have h4 := hi d (by simp [Fr.nums])
  have h5 := hi e (by simp [Fr.nums])
  have e0 : encFr ⟨a, b, c, d, e, x⟩ ++ r = enc (foldN a) ++ (enc (foldN b) ++ (enc (foldN c) ++ (enc (foldN d) ++ (enc (foldN e) ++ (encT x ++ r))))) := by
    show encs [a, b, c, d, e] ++ encT x ++ r = _
    rw [encs5]; simp
  unfold rdFrame
  rw [e0]
  simp only [rdInt_enc a _ h1.1 h1.2, rdInt_enc b _ h2.1 h2.2, rdInt_enc c _ h3.1 h3.2, rdInt_enc d _ h4.1 h4.2, rdInt_enc e _ h5.1 h5.2, rdBytes_enc x r hl]

theorem okN_iff (m n : Int) : okN m n = true ↔ 0 ≤ n ∧ n ≤ m := by simp [okN]

theorem wrong_nought {f : Fr} (h : wrongL f = 0) : (0 ≤ f.fr ∧ f.fr ≤ 15) ∧ (0 ≤ f.to ∧ f.to ≤ 15) ∧ (0 ≤ f.life ∧ f.life ≤ 2147483647) ∧ (0 ≤ f.seq ∧ f.seq ≤ 2147483647) ∧ (0 ≤ f.ack ∧ f.ack ≤ 2147483647) ∧ f.load.length ≤ 4096 := by
  unfold wrongL at h
  split at h
  · rename_i hk
    simp only [Fr.ok, Bool.and_eq_true, okN_iff] at hk
    split at h
    · cases h
    · omega
  · cases h

theorem in64_of {f : Fr} (h : wrongL f = 0) : In64 f.nums := by
  obtain ⟨h1, h2, h3, h4, h5, _⟩ := wrong_nought h
  intro n hn
  simp only [Fr.nums, List.mem_cons, List.not_mem_nil, or_false] at hn
  rcases hn with rfl | rfl | rfl | rfl | rfl <;> omega

theorem encs_byt {ns : List Int} (h : In64 ns) : Byt (encs ns) := by
  intro x hx
  simp only [encs, List.mem_flatMap] at hx
  obtain ⟨n, hn, hx⟩ := hx
  exact enc_byt n (h n hn).1 (h n hn).2 x hx

theorem body_byt {f : Fr} (h : wrongL f = 0) (hB : Byt f.load) : Byt (bodyL f) := by
  have hl := (wrong_nought h).2.2.2.2.2
  intro x hx
  rcases List.mem_cons.1 hx with rfl | hx
  · omega
  · exact ((encs_byt (in64_of h)).append (encT_byt hB (by omega))) x hx

theorem tail4_byt (s : Nat) : Byt (tail4 s) := by
  intro x hx
  simp only [tail4, List.mem_cons, List.not_mem_nil, or_false] at hx
  omega
theorem tail4_len (s : Nat) : (tail4 s).length = 4 := rfl
theorem seal_len (b : List Nat) : (sealL b).length = b.length + 4 := by simp [sealL, tail4_len]
theorem seal_take (b : List Nat) : (sealL b).take ((sealL b).length - 4) = b := by
  rw [seal_len, Nat.add_sub_cancel]; simp [sealL]
theorem seal_drop (b : List Nat) : (sealL b).drop ((sealL b).length - 4) = tail4 (crcSum b) := by
  rw [seal_len, Nat.add_sub_cancel]; simp [sealL]
theorem seal_byt {b : List Nat} (h : Byt b) : Byt (sealL b) := h.append (tail4_byt _)

/-- What Pack writes is read as it was, whatever stands behind the fields being told as left. -/
theorem read_pack {f : Fr} (h : wrongL f = 0) : readL (sealL (bodyL f)) = (f, 0) := by
  have hl := (wrong_nought h).2.2.2.2.2
  have e1 := seal_take (bodyL f)
  have e2 := seal_drop (bodyL f)
  unfold readL
  rw [e1, e2]
  have e3 : (bodyL f).drop 1 = encFr f ++ [] := by simp [bodyL]
  rw [e3, rdFrame_enc f [] (in64_of h) (by omega)]
  have hn : ¬ ((sealL (bodyL f)).length < 5 ∨ (sealL (bodyL f)).head? ≠ some 70) := by
    rw [seal_len]; simp [sealL, bodyL]
  rw [if_neg hn, if_neg (by simp), if_neg (by simp [h])]

/-- Bytes that are a frame's are those that it is written as. -/
theorem read_back {bs : List Nat} {f : Fr} (hB : Byt bs) (h : readL bs = (f, 0)) : wrongL f = 0 ∧ bs = sealL (bodyL f) ∧ Byt f.load := by
  unfold readL at h
  split at h
  · simp at h
  · rename_i h5
    split at h
    · simp at h
    · rename_i hs
      split at h
      · simp at h
      · rename_i hw
        have h' := (Prod.mk.inj h).1
        have hr : rdFrame ((bs.take (bs.length - 4)).drop 1) = (f, [], false) := by
          have a1 : (rdFrame ((bs.take (bs.length - 4)).drop 1)).2.2 = false := by
            cases hq : (rdFrame ((bs.take (bs.length - 4)).drop 1)).2.2 with
            | false => rfl
            | true => exact absurd (.inl hq) hw
          have a2 : (rdFrame ((bs.take (bs.length - 4)).drop 1)).2.1 = [] := by
            rcases Classical.em ((rdFrame ((bs.take (bs.length - 4)).drop 1)).2.1 = []) with hq | hq
            · exact hq
            · exact absurd (.inr (.inl hq)) hw
          rw [← h', ← a1, ← a2]
        have hw0 : wrongL f = 0 := by
          rcases Classical.em (wrongL f = 0) with hq | hq
          · exact hq
          · rw [hr] at hw; exact absurd (.inr (.inr hq)) hw
        obtain ⟨q1, q2, _⟩ := rdFrame_back _ _ _ ((hB.take _).drop 1) hr
        refine ⟨hw0, ?_, q2⟩
        have hs' : bs.drop (bs.length - 4) = tail4 (crcSum (bs.take (bs.length - 4))) := Classical.not_not.1 hs
        have hb : bs.take (bs.length - 4) = bodyL f := by
          cases bs with
          | nil => simp at h5
          | cons y l =>
            have hy : y = 70 := by
              rcases Classical.em (y = 70) with hq | hq
              · exact hq
              · exact absurd (.inr (by simpa using hq)) h5
            have hl4 : 4 ≤ l.length := by
              rcases Nat.lt_or_ge l.length 4 with hq | hq
              · exact absurd (.inl (by simp; omega)) h5
              · exact hq
            have e : (y :: l).length - 4 = (l.length - 4) + 1 := by simp; omega
            rw [e, List.take_succ_cons, List.drop_succ_cons, List.drop_zero, List.append_nil] at q1
            rw [e, List.take_succ_cons, q1, hy]; rfl
        have := (List.take_append_drop (bs.length - 4) bs).symm
        rw [hs', hb] at this
        exact this

/-- No proper beginning of a frame's bytes is a frame's. -/
theorem read_short {f : Fr} (h : wrongL f = 0) (hB : Byt f.load) (m : Nat) (hm : m < (sealL (bodyL f)).length) : (readL ((sealL (bodyL f)).take m)).2 ≠ 0 := by
  intro h0
  have hBy := (seal_byt (body_byt h hB)).take m
  obtain ⟨g, hg⟩ : ∃ g, g = (readL ((sealL (bodyL f)).take m)).1 := ⟨_, rfl⟩
  obtain ⟨hw, he, _⟩ := read_back hBy (show readL ((sealL (bodyL f)).take m) = (g, 0) by rw [hg, ← h0])
  have hl : ((sealL (bodyL f)).take m).length = m := by simp; omega
  rw [he, seal_len] at hl
  have hp : bodyL g = (bodyL f).take (m - 4) := by
    have := congrArg (List.take (m - 4)) he
    rw [List.take_take, Nat.min_eq_left (by omega)] at this
    have e1 : (sealL (bodyL f)).take (m - 4) = (bodyL f).take (m - 4) := by
      rw [sealL, List.take_append_of_le_length (by rw [seal_len] at hm; omega)]
    have e2 : (sealL (bodyL g)).take (m - 4) = bodyL g := by
      rw [sealL, ← hl, Nat.add_sub_cancel]; simp
    rw [e1, e2] at this
    exact this.symm
  have hlf := (wrong_nought h).2.2.2.2.2
  have hlg := (wrong_nought hw).2.2.2.2.2
  have e3 : encFr f = encFr g ++ (bodyL f).drop (m - 4) := by
    have := (List.take_append_drop (m - 4) (bodyL f)).symm
    rw [← hp] at this
    simpa [bodyL] using this
  have r1 := rdFrame_enc f [] (in64_of h) (by omega)
  have r2 := rdFrame_enc g ((bodyL f).drop (m - 4)) (in64_of hw) (by omega)
  rw [← e3] at r2
  rw [List.append_nil, r2] at r1
  have : (bodyL f).drop (m - 4) = [] := (Prod.mk.inj (Prod.mk.inj r1).2).1
  have hz := congrArg List.length this
  rw [seal_len] at hm
  simp at hz
  omega

/-- Nor are they with more behind. -/
theorem read_long {f : Fr} (h : wrongL f = 0) (_hB : Byt f.load) (more : List Nat) (hm : more ≠ []) : (readL (sealL (bodyL f) ++ more)).2 ≠ 0 := by
  have hlf := (wrong_nought h).2.2.2.2.2
  have hp : 0 < more.length := by cases more with | nil => exact absurd rfl hm | cons _ _ => simp
  obtain ⟨s, hs, hs0⟩ : ∃ s, ((sealL (bodyL f) ++ more).take ((sealL (bodyL f) ++ more).length - 4)) = bodyL f ++ s ∧ s ≠ [] := by
    refine ⟨(tail4 (crcSum (bodyL f)) ++ more).take more.length, ?_, ?_⟩
    · have e0 : (sealL (bodyL f) ++ more).length - 4 = (bodyL f).length + more.length := by rw [List.length_append, seal_len]; omega
      rw [e0, sealL, List.append_assoc, List.take_append, List.take_of_length_le (by omega), Nat.add_sub_cancel_left]
    · intro hz
      have := congrArg List.length hz
      rw [List.length_take, List.length_append, tail4_len, List.length_nil] at this
      omega
  unfold readL
  rw [hs]
  have e3 : (bodyL f ++ s).drop 1 = encFr f ++ s := by simp [bodyL]
  rw [e3, rdFrame_enc f s (in64_of h) (by omega)]
  split
  · simp
  · split
    · simp
    · rw [if_pos (.inr (.inl hs0))]; simp

theorem byte_join (x y : Nat) (h : x < 256) : x ^^^ 256 * y = x + 256 * y := by
  rw [Nat.add_comm x]
  apply Nat.eq_of_testBit_eq
  intro i
  rw [show (256 : Nat) = 2 ^ 8 from rfl, Nat.testBit_two_pow_mul_add y (by omega : x < 2 ^ 8), Nat.testBit_xor, Nat.testBit_two_pow_mul]
  by_cases hi : i < 8
  · rw [if_pos hi]; simp [show ¬ 8 ≤ i from by omega]
  · rw [if_neg hi, Nat.testBit_lt_two_pow (Nat.lt_of_lt_of_le (show x < 2 ^ 8 by omega) (Nat.pow_le_pow_right (by omega) (by omega)))]; simp [show 8 ≤ i from by omega]

theorem val_tail (s : Nat) (h : s < 4294967296) : val (tail4 s) = s := by
  simp only [tail4, val]
  rw [byte_join (s / 16777216 % 256) _ (by omega), byte_join (s / 65536 % 256) _ (by omega), byte_join (s / 256 % 256) _ (by omega), byte_join (s % 256) _ (by omega)]
  omega

theorem crcSum_eq (b : List Nat) : crcSum b = crcF 4294967295 b ^^^ 4294967295 := by
  simp [crcSum, crcMore]

/-- With its sum behind, every list leaves the same. -/
theorem seal_left (b : List Nat) (hB : Byt b) : crcF 4294967295 (sealL b) = it 32 4294967295 := by
  have hc := crcF_lt 4294967295 b (by omega) hB
  have hs : crcSum b < 4294967296 := by rw [crcSum_eq]; exact xor_all_lt _ hc
  rw [sealL, crcF_append, crcF_val _ (tail4 (crcSum b)), tail4_len, val_tail _ hs, crcSum_eq]
  rw [← Nat.xor_assoc, Nat.xor_self, Nat.zero_xor]

/-- A frame's bytes of which up to 32 bits side by side are turned are refused. -/
theorem read_turned {b x : List Nat} {k wd : Nat} (hb : Byt b) (hx : Byt x) (hl : x.length = (sealL b).length) (hw : wd < 4294967296) (hw0 : wd ≠ 0) (hk : k ≤ 8 * (sealL b).length) (hv : val x = val (sealL b) ^^^ 2 ^ k * wd) :
    (readL x).2 ≠ 0 := by
  intro h0
  obtain ⟨g, hg⟩ : ∃ g, g = (readL x).1 := ⟨_, rfl⟩
  obtain ⟨hgw, he, hgB⟩ := read_back hx (show readL x = (g, 0) by rw [hg, ← h0])
  have hne := crc_turned 0 (sealL b) x wd k hl hw hw0 hk hv
  have e1 := seal_left b hb
  have e2 := seal_left (bodyL g) (body_byt hgw hgB)
  rw [← he] at e2
  apply hne
  simp only [crcMore, Nat.zero_mod, Nat.zero_xor]
  rw [e1, e2]

theorem read_frame0 (bs : List Nat) (h : (readL bs).2 ≠ 0) : (readL bs).1 = fr0 := by
  unfold readL at h ⊢
  split
  · rfl
  · split
    · rfl
    · split
      · rfl
      · rename_i h1 h2 h3
        rw [if_neg h1, if_neg h2, if_neg h3] at h
        exact absurd rfl h
end Go.Proofs.YtpieagcijfkpnaaDoor
