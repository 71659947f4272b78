/- The program's reader and the reference's read the same out of every text. -/
import Derived.Test.YtfnloomcianbiaaGreatDoorRefG
import Derived.Test.YtfnloomcianbiaaGreatDoorEval
namespace Go.Proofs.YtfnloomcianbiaaGreatDoor
open Go.RowKit Go.ChangeShapes Go.WideShapes Go.ChangeAt Go.Deep

/-- Two answers: the same line, or the same job. -/
def Sim (R1 R2 : Except Int St) : Prop := match R1 with
  | .error k => R2 = .error k
  | .ok s => ∃ r l, R2 = .ok { s with rest := r, line := l }

theorem tie_like (r : ByteArray) (l : Int) : ∀ (us : List Use) (st : St), Sim (tieL us st) (tieL us { st with rest := r, line := l })
  | [], st => ⟨r, l, rfl⟩
  | u :: us, st => by
    unfold tieL
    by_cases h1 : findF u.name st.funcs < 0
    · rw [if_pos h1, if_pos h1]; rfl
    · rw [if_neg h1, if_neg h1]
      by_cases h2 : u.i < 0
      · rw [if_pos h2, if_pos h2]
        exact tie_like r l us { st with main := findF u.name st.funcs }
      · rw [if_neg h2, if_neg h2]
        exact tie_like r l us (st.setN u.i.toNat u.k.toNat (findF u.name st.funcs))

theorem cut_cases (c : UInt8) (t : List UInt8) : c ∉ t ∨ ∃ p r, t = p ++ c :: r ∧ c ∉ p := by
  by_cases h : c ∈ t
  · exact .inr (List.eq_append_cons_of_mem h)
  · exact .inl h

theorem lines_nil (t : List UInt8) : (linesOf t).1 = [] ↔ t = [] := by
  rcases cut_cases 10 t with h | ⟨p, r, rfl, h⟩
  · rw [lines_end h]
    split <;> simp [*]
  · rw [lines_cut h]
    simp
theorem lines_part (n : Nat) : ∀ t : List UInt8, t.length < n → (linesOf t).2 = false → (linesOf t).1 ≠ [] := by
  intro t _ h2 h1
  rw [lines_nil] at h1
  subst h1
  cases h2

theorem bs_toList (l : List UInt8) : (bs l).toList = l := mk_toList l

theorem words_single {p : List UInt8} {s : ByteArray} (h : wordsOf (bs p) = [s]) : s = bs p := by
  rcases cut_cases 32 p with hp | ⟨a, r, rfl, ha⟩
  · rw [words_one p hp] at h
    injection h with h; exact h.symm
  · rw [words_more a r ha] at h
    injection h with _ h
    exact absurd h (words_ne _)

theorem words_first (c : UInt8) (p : List UInt8) (hc : c ≠ 32) : ∃ w r, wordsOf (bs (c :: p)) = w :: r ∧ w.toList.isEmpty = false := by
  rcases cut_cases 32 (c :: p) with hp | ⟨a, r, e, ha⟩
  · exact ⟨_, _, words_one _ hp, by rw [bs_toList]; rfl⟩
  · rw [e, words_more a r ha]
    refine ⟨_, _, rfl, ?_⟩
    rw [bs_toList]
    cases a with
    | nil => simp at e; exact absurd e.1 hc
    | cons => rfl
theorem words_blank (p : List UInt8) : wordsOf (bs (32 :: p)) = bs [] :: wordsOf (bs p) := words_more [] p (by simp)

theorem ind_no {p : List UInt8} (h : isInd p = false) : insLineL (wordsOf (bs p)) = none := by
  have e0 : insLineL (wordsOf (bs [])) = none := by kernel_rfl
  have e1 : insLineL (bs [] :: wordsOf (bs [])) = none := by kernel_rfl
  have e2 : insLineL (bs [] :: wordsOf (bs [32])) = none := by kernel_rfl
  match p with
  | [] => exact e0
  | c :: p1 =>
    by_cases hc : c = 32
    · subst hc
      rw [words_blank]
      match p1 with
      | [] => exact e1
      | d :: p2 =>
        by_cases hd : d = 32
        · subst hd
          match p2 with
          | [] => exact e2
          | e :: p3 => cases h
        · obtain ⟨w, r, e, hw⟩ := words_first d p2 hd
          rw [e]
          cases r with
          | nil => rfl
          | cons x y => simp only [insLineL, hw, Bool.and_false, Bool.false_eq_true, if_false]
    · obtain ⟨w, r, e, hw⟩ := words_first c p1 hc
      rw [e]
      match r with
      | [] => rfl
      | [x] => rfl
      | x :: y :: z => simp only [insLineL, hw, Bool.false_and, Bool.false_eq_true, if_false]

theorem ind_yes {p : List UInt8} (h : isInd p = true) (fs : List Fun) : insLineL (wordsOf (bs p)) = insW (wordsOf (bs (p.drop 2))) ∧ funcL (wordsOf (bs p)) fs = none := by
  match p with
  | [] => cases h
  | [c] => simp [isInd] at h
  | [c, d] => simp [isInd] at h
  | c :: d :: e :: q =>
    have hcd : c = 32 ∧ d = 32 := by
      unfold isInd at h
      split at h
      · rename_i heq
        injection heq with h1 h2
        injection h2 with h2 _
        exact ⟨h1, h2⟩
      · cases h
    obtain ⟨rfl, rfl⟩ := hcd
    rw [words_blank, words_blank]
    show _ = insW (wordsOf (bs (e :: q))) ∧ _
    have hne := words_ne (bs (e :: q))
    generalize wordsOf (bs (e :: q)) = ws at hne
    cases ws with
    | nil => exact absurd rfl hne
    | cons a r =>
      refine ⟨?_, ?_⟩
      · simp only [insLineL, insW, bs_toList, List.isEmpty_nil, Bool.and_self, if_true]
      · have hf : isWord (bs []) [102, 117, 110, 99] = false := by kernel_rfl
        unfold funcL
        split
        · rename_i heq
          injection heq with h1 h2
          subst h1
          rw [hf]
          simp
        · rfl

theorem end_word {p : List UInt8} : isEnd (wordsOf (bs p)) = ((bs p).toList == [101, 110, 100]) := by
  by_cases h : p = [101, 110, 100]
  · subst h; kernel_rfl
  · rw [bs_toList, beq_false_of_ne h]
    unfold isEnd
    split
    · rename_i s hs
      rw [words_single hs, isWord, bs_toList, beq_false_of_ne h]
    · rfl

theorem body_go : ∀ (n : Nat) (t : List UInt8), t.length < n → ∀ (i : Nat), 2 ≤ i → ∀ st : St, Good i st →
    Sim (goL (linesOf t).2 (linesOf t).1 i false st) (bodyL n { st with rest := bs t, line := (i : Int) })
  | 0, _, h => by omega
  | n + 1, t, ht => by
    intro i hi st hg
    rcases cut_cases 10 t with hp | ⟨p, r, rfl, hp⟩
    · have e1 : bodyL (n + 1) { st with rest := bs t, line := (i : Int) } = .error ((i : Int) + 1) := by
        rw [bodyL]
        simp only [cut_none t hp, Bool.false_eq_true, if_false]
      rw [e1, lines_end hp]
      by_cases h0 : t = []
      · rw [if_pos h0]; rfl
      · rw [if_neg h0]; simp [goL, Sim]
    · have hlen : r.length < n := by simp at ht; omega
      rw [lines_cut hp]
      have hno : ¬ ((false : Bool) = true ∨ ((linesOf r).2 = false ∧ (linesOf r).1 = [])) := by
        rintro (h | ⟨h1, h2⟩)
        · cases h
        · exact lines_part _ r (Nat.lt_succ_self _) h1 h2
      have hL : ({ st with rest := bs (p ++ 10 :: r), line := (i : Int) } : St).rest = bs (p ++ 10 :: r) := rfl
      obtain ⟨a1, a2, a3, a4⟩ := line_at _ p r hp hL
      show Sim (goL (linesOf r).2 (bs p :: (linesOf r).1) i false st) _
      rw [goL, if_neg hno, bodyL, a1, a2, a3, a4]
      simp only [if_true]
      rw [end_word]
      by_cases he : ((bs p).toList == [101, 110, 100]) = true
      · rw [if_pos ⟨hi, he⟩, if_pos he, bs_toList]
        cases r with
        | nil => exact ⟨_, _, rfl⟩
        | cons c q =>
          have hq : (linesOf (c :: q)).1 ≠ [] := fun h => by
            rw [lines_nil] at h; cases h
          generalize (linesOf (c :: q)).2 = W
          generalize (linesOf (c :: q)).1 = Ls at hq
          cases Ls with
          | nil => exact absurd rfl hq
          | cons x y => simp [goL, Sim]
      · rw [if_neg (fun h => he h.2), if_neg he]
        have hk : (3 : Int) ≤ (i : Int) + 1 := by omega
        have hN := fun st' (h : lineL ((i : Int) + 1) (bs p) st = some st') => body_go n r hlen (i + 1) (by omega) st' (hg.line h)
        cases hI : isInd p with
        | false =>
          rw [line_fun hk (by rw [bs_list]; exact hI)] at hN ⊢
          cases hF : funcL (wordsOf (bs p)) st.funcs with
          | some f =>
            rw [hF] at hN
            have := hN _ rfl
            simpa using this
          | none =>
            have hi0 := ind_no hI
            simp only [Option.map_none, insStep, hi0]
            rfl
        | true =>
          obtain ⟨j1, j2⟩ := ind_yes hI st.funcs
          rw [line_ind hk (by rw [bs_list]; exact hI), bs_list] at hN ⊢
          rw [j2]
          simp only [insStep]
          rw [j1]
          cases hW : insW (wordsOf (bs (p.drop 2))) with
          | none => rfl
          | some x =>
            rw [hW] at hN
            rcases List.eq_nil_or_concat st.funcs with hn | ⟨fs, f, hf⟩
            · rw [hn]; rfl
            · rw [List.concat_eq_append] at hf
              have hc := hg.code f (by rw [hf]; simp)
              rw [hf] at hN ⊢
              simp only [List.getLast?_append, List.getLast?_singleton, Option.some_or, List.dropLast_concat] at hN ⊢
              by_cases h4 : f.code.length < 256
              · rw [if_pos h4] at hN ⊢
                rw [if_neg (by omega)]
                have := hN _ rfl
                simpa [St.add] using this
              · rw [if_neg h4, if_pos (by omega)]
                rfl

theorem reads_eq (s : ByteArray) : Sim (refReadL s) (readL s) := by
  obtain ⟨t, rfl⟩ : ∃ t, s = bs t := ⟨s.data.toList, by simp [bs]⟩
  have key : Sim (goL (linesOf t).2 (linesOf t).1 0 false st0) (match headL (St.begin (bs t)) with
      | .error l => .error l
      | .ok st => bodyL (st.rest.size + 1) st) := by
    rcases cut_cases 10 t with hp | ⟨p, r, rfl, hp⟩
    · have e1 : headL (St.begin (bs t)) = .error 1 := by
        unfold headL
        rw [show (St.begin (bs t)).rest = bs t from rfl, cut_none t hp]
        rfl
      rw [e1, lines_end hp]
      by_cases h0 : t = []
      · rw [if_pos h0]; rfl
      · rw [if_neg h0]; simp [goL, Sim]
    · have hno : ¬ ((false : Bool) = true ∨ ((linesOf r).2 = false ∧ (linesOf r).1 = [])) := by
        rintro (h | ⟨h1, h2⟩)
        · cases h
        · exact lines_part _ r (Nat.lt_succ_self _) h1 h2
      obtain ⟨a1, a2, a3, a4⟩ := line_at (St.begin (bs (p ++ 10 :: r))) p r hp rfl
      rw [lines_cut hp]
      show Sim (goL (linesOf r).2 (bs p :: (linesOf r).1) 0 false st0) _
      rw [goL, if_neg hno, if_neg (by omega)]
      unfold headL
      rw [a1, a2, a4, if_pos rfl]
      have l1 : lineL (((0 : Nat) : Int) + 1) (bs p) st0 = (jobL (wordsOf (bs p))).map fun q => { st0 with fuel := q.1, tasks := q.2 } := by
        unfold lineL; rw [if_pos (by decide)]
      have G1 := fun st' (h : lineL (((0 : Nat) : Int) + 1) (bs p) st0 = some st') => good0.line h
      rw [l1] at G1 ⊢
      cases hJ : jobL (wordsOf (bs p)) with
      | none => rfl
      | some q =>
        rw [hJ] at G1
        have g1 := G1 _ rfl
        clear G1
        obtain ⟨x, y⟩ := q
        simp only [Option.map_some]
        rcases cut_cases 10 r with hr | ⟨p2, r2, rfl, hp2⟩
        · simp only [St.begin]
          rw [cut_none r hr, lines_end hr]
          by_cases h0 : r = []
          · rw [if_pos h0]; rfl
          · rw [if_neg h0]; simp [goL, Sim, St.next]
        · have hno2 : ¬ ((false : Bool) = true ∨ ((linesOf r2).2 = false ∧ (linesOf r2).1 = [])) := by
            rintro (h | ⟨h1, h2⟩)
            · cases h
            · exact lines_part _ r2 (Nat.lt_succ_self _) h1 h2
          have hL2 : (({ { St.begin (bs (p ++ 10 :: (p2 ++ 10 :: r2))) with rest := bs (p2 ++ 10 :: r2), line := (St.begin (bs (p ++ 10 :: (p2 ++ 10 :: r2)))).line + 1 } with fuel := x, tasks := y } : St)).rest = bs (p2 ++ 10 :: r2) := rfl
          obtain ⟨b1, b2, b3, b4⟩ := line_at _ p2 r2 hp2 hL2
          rw [lines_cut hp2]
          show Sim (goL (linesOf r2).2 (bs p2 :: (linesOf r2).1) (0 + 1) false _) _
          rw [goL, if_neg hno2, if_neg (by omega), b1, b2, b4, if_pos rfl]
          have G2 := fun st' (h : lineL (((0 + 1 : Nat) : Int) + 1) (bs p2) { st0 with fuel := x, tasks := y } = some st') => g1.line h
          have l2 : lineL (((0 + 1 : Nat) : Int) + 1) (bs p2) { st0 with fuel := x, tasks := y } = (mainL (wordsOf (bs p2))).map fun q => { st0 with fuel := x, tasks := y, args := q.2, uses := st0.uses ++ [⟨q.1, 2, -1, 0⟩] } := by
            unfold lineL; rw [if_neg (by decide), if_pos (by decide)]
          rw [l2] at G2 ⊢
          cases hM : mainL (wordsOf (bs p2)) with
          | none => rfl
          | some q =>
            rw [hM] at G2
            have g2 := G2 _ rfl
            obtain ⟨nm, vs⟩ := q
            have := body_go ((bs r2).size + 1) r2 (by simp [bs, ByteArray.size]) 2 (by omega) _ g2
            exact this
  unfold refReadL readL
  rw [bs_list]
  revert key
  generalize goL (linesOf t).2 (linesOf t).1 0 false st0 = G
  generalize headL (St.begin (bs t)) = H
  intro key
  cases G with
  | error k =>
    cases H with
    | error l => simpa [Sim] using key
    | ok st =>
      have : bodyL (st.rest.size + 1) st = .error k := key
      simp only [this]
      rfl
  | ok st =>
    cases H with
    | error l =>
      obtain ⟨r, l', h⟩ := key
      cases h
    | ok st2 =>
      obtain ⟨r, l', h⟩ := key
      have h' : bodyL (st2.rest.size + 1) st2 = .ok { st with rest := r, line := l' } := h
      simp only [h']
      exact tie_like r l' st.uses st
end Go.Proofs.YtfnloomcianbiaaGreatDoor
