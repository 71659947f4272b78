/- Numbers and lines, plain. -/
import Derived.Test.YtfnloomcianbiaaGreatDoorReadW
import Derived.Test.YtfnloomcianbiaaGreatDoorLine
namespace Go.Proofs.YtfnloomcianbiaaGreatDoor
open Go.RowKit Go.ChangeShapes Go.WideShapes Go.ChangeAt Go.Deep

theorem parse_append : ∀ (a b : List UInt8) (acc : Nat), Lib.parseUint10 acc (a ++ b) = match Lib.parseUint10 acc a with
    | .ok v => Lib.parseUint10 v b
    | .«syntax» => .«syntax»
    | .range => .range
  | [], b, acc => rfl
  | c :: r, b, acc => by
    show Lib.parseUint10 acc (c :: (r ++ b)) = _
    simp only [Lib.parseUint10]
    split
    · split
      · rfl
      · split
        · rfl
        · exact parse_append r b _
    · rfl

theorem digit_byte (d : Nat) (h : d < 10) : (UInt8.ofNat (48 + d)).toNat = 48 + d := by
  simp [UInt8.toNat_ofNat']
  omega

theorem parse_one (acc d : Nat) (h : d < 10) (hb : acc * 10 + d < 18446744073709551616) : Lib.parseUint10 acc [UInt8.ofNat (48 + d)] = .ok (acc * 10 + d) := by
  have e := digit_byte d h
  simp only [Lib.parseUint10, e]
  rw [if_pos (by omega), if_neg (by omega), if_neg (by omega)]
  congr 1
  omega

theorem parse_dec (u : Nat) (h : u < 18446744073709551616) : Lib.parseUint10 0 (Lib.decDigits u) = .ok u := by
  induction u using Nat.strongRecOn with
  | _ u ih =>
    rw [Lib.decDigits]
    split
    · rename_i h10
      have := parse_one 0 u h10 (by omega)
      simpa using this
    · rename_i h10
      rw [parse_append, ih (u / 10) (by omega) (by omega)]
      have := parse_one (u / 10) (u % 10) (by omega) (by omega)
      show Lib.parseUint10 (u / 10) [UInt8.ofNat (48 + u % 10)] = _
      rw [this]
      congr 1
      omega

theorem dec_bytes (u : Nat) : ∀ c ∈ Lib.decDigits u, 48 ≤ c.toNat ∧ c.toNat ≤ 57 := by
  induction u using Nat.strongRecOn with
  | _ u ih =>
    rw [Lib.decDigits]
    split
    · rename_i h10
      intro c hc
      simp only [List.mem_singleton] at hc
      rw [hc, digit_byte u h10]; omega
    · rename_i h10
      intro c hc
      rcases List.mem_append.1 hc with hc | hc
      · exact ih (u / 10) (by omega) c hc
      · simp only [List.mem_singleton] at hc
        rw [hc, digit_byte _ (by omega)]; omega
theorem dec_ne (u : Nat) : Lib.decDigits u ≠ [] := by
  rw [Lib.decDigits]
  split <;> simp

theorem itoa_bytes (n : Int) : ∀ c ∈ Lib.itoa n, c.toNat = 45 ∨ (48 ≤ c.toNat ∧ c.toNat ≤ 57) := by
  unfold Lib.itoa
  split
  · intro c hc
    rcases List.mem_cons.1 hc with rfl | hc
    · exact .inl rfl
    · exact .inr (dec_bytes _ c hc)
  · exact fun c hc => .inr (dec_bytes _ c hc)

theorem atoi_itoa (n : Int) (h : -9223372036854775808 ≤ n ∧ n ≤ 9223372036854775807) : Lib.atoiAll (Lib.itoa n) = .ok n := by
  by_cases hn : n < 0
  · have e : Lib.itoa n = 45 :: Lib.decDigits n.natAbs := by unfold Lib.itoa; rw [if_pos hn]
    rw [e]
    have hm : Lib.parseMag (Lib.decDigits n.natAbs) = .ok n.natAbs := by
      unfold Lib.parseMag
      rw [if_neg (dec_ne _), parse_dec _ (by omega)]
    unfold Lib.atoiAll
    have e45 : (45 : UInt8).toNat = 45 := rfl
    simp only [e45]
    rw [if_pos (by simp), hm]
    simp only
    rw [if_neg (by simp), if_neg (by omega)]
    congr 1
    simp
    omega
  · have e : Lib.itoa n = Lib.decDigits n.toNat := by unfold Lib.itoa; rw [if_neg hn]
    rw [e]
    have hm : Lib.parseMag (Lib.decDigits n.toNat) = .ok n.toNat := by
      unfold Lib.parseMag
      rw [if_neg (dec_ne _), parse_dec _ (by omega)]
    cases hd : Lib.decDigits n.toNat with
    | nil => exact absurd hd (dec_ne _)
    | cons c r =>
      have hc := dec_bytes n.toNat c (by rw [hd]; simp)
      unfold Lib.atoiAll
      simp only
      rw [if_neg (by omega), ← hd, hm]
      simp only
      rw [if_neg (by omega), if_neg (by omega), if_neg (by omega)]
      congr 1
      omega

theorem num_itoa (n : Int) (h : -9223372036854775808 ≤ n ∧ n ≤ 9223372036854775807) : num (bs (Lib.itoa n)) = some n := by
  have e : (bs (Lib.itoa n)).data.toList = Lib.itoa n := by simp [bs]
  unfold num
  rw [e, atoi_itoa n h]
  simp

/-- Where a byte first stands. -/
theorem index_at (c : UInt8) : ∀ (l r : List UInt8), c ∉ l → Lib.index (l ++ c :: r) [c] = (l.length : Nat)
  | [], r, _ => by simp [Lib.index, List.isPrefixOf]
  | b :: l, r, h => by
    have hb : c ≠ b := fun e => h (by simp [e])
    have ih := index_at c l r (fun e => h (by simp [e]))
    show Lib.index (b :: (l ++ c :: r)) [c] = _
    rw [Lib.index, ih]
    have hp : ([c] : List UInt8).isPrefixOf (b :: (l ++ c :: r)) = false := by simp [List.isPrefixOf, hb]
    rw [hp]
    simp only [Bool.false_eq_true, if_false]
    rw [if_neg (by simp)]
    simp
theorem index_no (c : UInt8) : ∀ (l : List UInt8), c ∉ l → Lib.index l [c] = -1
  | [], _ => by simp [Lib.index]
  | b :: l, h => by
    have hb : c ≠ b := fun e => h (by simp [e])
    have ih := index_no c l (fun e => h (by simp [e]))
    rw [Lib.index, ih]
    have hp : ([c] : List UInt8).isPrefixOf (b :: l) = false := by simp [List.isPrefixOf, hb]
    rw [hp]
    simp

theorem bs_list (l : List UInt8) : (bs l).data.toList = l := by simp [bs]

/-- A line, cut off its text. -/
theorem cut_line (l r : List UInt8) (h : (10 : UInt8) ∉ l) : cutFirst (bs (l ++ 10 :: r)) = bs l ∧ cutRest (bs (l ++ 10 :: r)) = bs r ∧ cutWhole (bs (l ++ 10 :: r)) = true := by
  have e : Lib.cut (bs (l ++ 10 :: r)).data.toList nl.data.toList = (l, r, true) := by
    rw [bs_list]
    show Lib.cut (l ++ 10 :: r) [10] = _
    unfold Lib.cut
    rw [index_at 10 l r h, if_pos (by omega)]
    simp
  unfold cutFirst cutRest cutWhole
  rw [e]
  exact ⟨rfl, rfl, rfl⟩
theorem cut_none (l : List UInt8) (h : (10 : UInt8) ∉ l) : cutWhole (bs l) = false := by
  have e : Lib.cut (bs l).data.toList nl.data.toList = (l, [], false) := by
    rw [bs_list]
    show Lib.cut l [10] = _
    unfold Lib.cut
    rw [index_no 10 l h, if_neg (by omega)]
  unfold cutWhole
  rw [e]

/-- Words, split at their blanks. -/
theorem words_one (l : List UInt8) (h : (32 : UInt8) ∉ l) : wordsOf (bs l) = [bs l] := by
  have e : Lib.indexB (bs l) sp = -1 := by
    show Lib.index (bs l).data.toList sp.data.toList = -1
    rw [bs_list]
    exact index_no 32 l h
  exact Lib.splitB_miss sp 0 _ _ e
theorem words_more (l r : List UInt8) (h : (32 : UInt8) ∉ l) : wordsOf (bs (l ++ 32 :: r)) = bs l :: wordsOf (bs r) := by
  have e : Lib.indexB (bs (l ++ 32 :: r)) sp = (l.length : Nat) := by
    show Lib.index (bs (l ++ 32 :: r)).data.toList sp.data.toList = _
    rw [bs_list]
    exact index_at 32 l r h
  have e2 : (bs (l ++ 32 :: r)).extract (l.length + sp.size) (bs (l ++ 32 :: r)).size = bs r := by
    apply bytes_inj
    rw [Lib.extract_to_end, bs_list, bs_list]
    have : sp.size = 1 := rfl
    rw [this, List.drop_append]
    simp
  have e3 : (bs (l ++ 32 :: r)).extract 0 (l.length + 0) = bs l := by
    apply bytes_inj
    rw [Lib.extract_from_zero, bs_list, bs_list]
    simp
  unfold wordsOf
  rw [Lib.countB_hit _ sp l.length (by decide) e, e2, Nat.add_comm 1, Lib.splitB_hit sp 0 _ _ l.length e, e2, e3]
end Go.Proofs.YtfnloomcianbiaaGreatDoor
/- Line by line: what readL makes of a text that is put together of lines. -/

namespace Go.Proofs.YtfnloomcianbiaaGreatDoor
open Go.RowKit Go.ChangeShapes Go.WideShapes Go.ChangeAt Go.Deep

theorem head_eval (l1 l2 r : List UInt8) (h1 : (10 : UInt8) ∉ l1) (h2 : (10 : UInt8) ∉ l2) {x y : Int} {nm : ByteArray} {vs : List Int} (hj : jobL (wordsOf (bs l1)) = some (x, y)) (hm : mainL (wordsOf (bs l2)) = some (nm, vs)) :
    headL (St.begin (bs (l1 ++ 10 :: (l2 ++ 10 :: r)))) = .ok ⟨bs r, 2, [], 0, vs, x, y, [⟨nm, 2, -1, 0⟩]⟩ := by
  obtain ⟨a1, a2, a3⟩ := cut_line l1 (l2 ++ 10 :: r) h1
  obtain ⟨b1, b2, b3⟩ := cut_line l2 r h2
  have e1 : lineOf (St.begin (bs (l1 ++ 10 :: (l2 ++ 10 :: r)))) = wordsOf (bs l1) := by
    unfold lineOf
    show wordsOf (cutFirst (bs (l1 ++ 10 :: (l2 ++ 10 :: r)))) = _
    rw [a1]
  unfold headL
  rw [e1, hj, show (St.begin (bs (l1 ++ 10 :: (l2 ++ 10 :: r)))).rest = bs (l1 ++ 10 :: (l2 ++ 10 :: r)) from rfl, a3, if_pos rfl]
  have e2 : (St.begin (bs (l1 ++ 10 :: (l2 ++ 10 :: r)))).next = ⟨bs (l2 ++ 10 :: r), 1, [], 0, [], 0, 0, []⟩ := by
    unfold St.next
    show St.mk (cutRest (bs (l1 ++ 10 :: (l2 ++ 10 :: r)))) _ _ _ _ _ _ _ = _
    rw [a2]; rfl
  simp only [e2]
  rw [b3, if_pos rfl]
  have e3 : lineOf ⟨bs (l2 ++ 10 :: r), 1, [], 0, [], x, y, []⟩ = wordsOf (bs l2) := by
    unfold lineOf
    show wordsOf (cutFirst (bs (l2 ++ 10 :: r))) = _
    rw [b1]
  rw [e3, hm]
  simp only [St.next, b2]
  rfl

/-- A reader at a line. -/
theorem line_at (st : St) (l r : List UInt8) (h : (10 : UInt8) ∉ l) (hst : st.rest = bs (l ++ 10 :: r)) : cutWhole st.rest = true ∧ lineOf st = wordsOf (bs l) ∧ cutRest st.rest = bs r ∧ st.next = { st with rest := bs r, line := st.line + 1 } := by
  obtain ⟨a1, a2, a3⟩ := cut_line l r h
  refine ⟨by rw [hst]; exact a3, by unfold lineOf; rw [hst, a1], by rw [hst]; exact a2, ?_⟩
  unfold St.next
  rw [hst, a2]

theorem body_func (n : Nat) (st : St) (l r : List UInt8) (h : (10 : UInt8) ∉ l) (hst : st.rest = bs (l ++ 10 :: r)) (he : isEnd (wordsOf (bs l)) = false) {f : Fun} (hf : funcL (wordsOf (bs l)) st.funcs = some f) :
    bodyL (n + 1) st = bodyL n { st with rest := bs r, line := st.line + 1, funcs := st.funcs ++ [f] } := by
  obtain ⟨a1, a2, _, a4⟩ := line_at st l r h hst
  rw [bodyL, a1, a2, he, a4]
  simp only [if_true, hf, Bool.false_eq_true, if_false]

theorem body_ins (n : Nat) (st : St) (l r : List UInt8) (h : (10 : UInt8) ∉ l) (hst : st.rest = bs (l ++ 10 :: r)) (he : isEnd (wordsOf (bs l)) = false) (hf : funcL (wordsOf (bs l)) st.funcs = none) {st' : St} (hi : insStep { st with rest := bs r, line := st.line + 1 } (wordsOf (bs l)) = some st') :
    bodyL (n + 1) st = bodyL n st' := by
  obtain ⟨a1, a2, _, a4⟩ := line_at st l r h hst
  rw [bodyL, a1, a2, he, a4]
  simp only [if_true, hf, Bool.false_eq_true, if_false, hi]

theorem body_end (n : Nat) (st : St) (hst : st.rest = bs [101, 110, 100, 10]) : bodyL (n + 1) st = .ok { st with rest := bs [], line := st.line + 1 } := by
  have hl : (10 : UInt8) ∉ ([101, 110, 100] : List UInt8) := by decide
  obtain ⟨a1, a2, a3, a4⟩ := line_at st [101, 110, 100] [] hl hst
  have he : isEnd (wordsOf (bs [101, 110, 100])) = true := by kernel_rfl
  have hz : (bs []).toList.isEmpty = true := by kernel_rfl
  rw [bodyL, a1, a2, he, a4, a3, hz]
  simp
end Go.Proofs.YtfnloomcianbiaaGreatDoor
