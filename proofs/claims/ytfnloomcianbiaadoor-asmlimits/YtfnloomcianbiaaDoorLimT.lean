/- AsmLimits' texts, read. -/
import Derived.Test.YtfnloomcianbiaaDoorSpawnT
namespace Go.Proofs.YtfnloomcianbiaaDoor
open Go.RowKit Go.ChangeShapes Go.WideShapes Go.ChangeAt Go.Deep

def lmHead : List UInt8 := [106, 111, 98, 32, 49, 32, 49, 10, 109, 97, 105, 110, 32, 102, 48]
def sevens (n : Nat) : List UInt8 := (List.replicate n [32, 55]).flatten
def pops (n : Nat) : List UInt8 := (List.replicate n [32, 32, 112, 111, 112, 10]).flatten
def fnF0 : List UInt8 := [102, 117, 110, 99, 32, 102, 48, 32, 48, 32, 48, 10]
def lm0 (n : Nat) : List UInt8 := lmHead ++ sevens n ++ 10 :: fnF0
def lm1 (n : Nat) : List UInt8 := lmHead ++ 10 :: fnF0 ++ pops n
def lm2 (n : Nat) : List UInt8 := lmHead ++ 10 :: (List.range n).flatMap (fun i => fnL i ++ [10])
def endT : List UInt8 := [101, 110, 100, 10]

theorem sevens_no10 (n : Nat) : (10 : UInt8) ∉ sevens n := by
  intro h
  simp only [sevens, List.mem_flatten, List.mem_replicate] at h
  obtain ⟨l, ⟨_, rfl⟩, h⟩ := h
  revert h
  decide
theorem sevens_succ (n : Nat) : sevens (n + 1) = 32 :: 55 :: sevens n := by simp [sevens, List.replicate_succ]
theorem words_sevens : ∀ (n : Nat) (l : List UInt8), (32 : UInt8) ∉ l → wordsOf (bs (l ++ sevens n)) = bs l :: List.replicate n (bs [55])
  | 0, l, h => by simpa [sevens] using words_one l h
  | n + 1, l, h => by
    rw [sevens_succ, words_more l _ h]
    have := words_sevens n [55] (by decide)
    simp only [List.cons_append, List.nil_append] at this
    rw [this, List.replicate_succ]
theorem words_main (n : Nat) : wordsOf (bs ([109, 97, 105, 110] ++ 32 :: ([102, 48] ++ sevens n))) = bs [109, 97, 105, 110] :: bs [102, 48] :: List.replicate n (bs [55]) := by
  rw [words_more [109, 97, 105, 110] _ (by decide), words_sevens n [102, 48] (by decide)]
theorem nums_sevens (n : Nat) : numsL (List.replicate n (bs [55])) = some (List.replicate n 7) := by
  have h := numsL_itoa (ns := List.replicate n 7) (fun x hx => by
    have := (List.mem_replicate.1 hx).2
    omega)
  rw [List.map_replicate] at h
  have e : bs (Lib.itoa 7) = bs [55] := by kernel_rfl
  rw [e] at h
  exact h
theorem main_sevens (n : Nat) : mainL (bs [109, 97, 105, 110] :: bs [102, 48] :: List.replicate n (bs [55])) = if n ≤ 8 then some (bs [102, 48], List.replicate n 7) else none := by
  have h2 : (isWord (bs [109, 97, 105, 110]) [109, 97, 105, 110] && isNameL (bs [102, 48]).data.toList) = true := by kernel_rfl
  simp only [mainL, h2, if_true, nums_sevens, List.length_replicate]
theorem job_11 : jobL (wordsOf (bs [106, 111, 98, 32, 49, 32, 49])) = some (1, 1) := by kernel_rfl

theorem find_00 (fs : List Fun) (hN : Numbered fs) (h : 0 < fs.length) (hl : fs.length ≤ 300) : findF (bs [102, 48]) fs = 0 := by
  have := hN.find hl (x := 0) (by omega)
  rw [if_pos h] at this
  have e : nmL 0 = [102, 48] := by kernel_rfl
  rw [e] at this
  exact this
theorem tie_main (fs : List Fun) (hN : Numbered fs) (h : 0 < fs.length) (hl : fs.length ≤ 300) (rest : ByteArray) (ln mn : Int) (vs : List Int) (fu tk : Int) : tieL [⟨bs [102, 48], 2, -1, 0⟩] ⟨rest, ln, fs, mn, vs, fu, tk, [⟨bs [102, 48], 2, -1, 0⟩]⟩ = .ok ⟨rest, ln, fs, 0, vs, fu, tk, [⟨bs [102, 48], 2, -1, 0⟩]⟩ := by
  have e := find_00 fs hN h hl
  rw [tieL]
  simp only [e]
  rw [if_neg (by decide), if_pos (by decide), tieL]
theorem fnL0 : fnF0 = fnL 0 ++ [10] := by kernel_rfl
theorem numbered_one (f : Fun) (h : f.name = bs (nmL 0)) : Numbered [f] := by
  intro j hj
  have : j = 0 := by simpa using hj
  subst this
  exact h
theorem numbered_nil : Numbered [] := fun j hj => absurd hj (by simp)

theorem lm0_no (n : Nat) (h : 8 < n) : readL (bs (lm0 n ++ endT)) = .error 2 := by
  have T : lm0 n ++ endT = [106, 111, 98, 32, 49, 32, 49] ++ 10 :: (([109, 97, 105, 110] ++ 32 :: ([102, 48] ++ sevens n)) ++ 10 :: (fnF0 ++ endT)) := by simp [lm0, lmHead]
  obtain ⟨R, hR⟩ : ∃ R, R = fnF0 ++ endT := ⟨_, rfl⟩
  rw [← hR] at T
  clear hR
  have n10 : (10 : UInt8) ∉ [109, 97, 105, 110] ++ 32 :: ([102, 48] ++ sevens n) := by simp [sevens_no10]
  have W := words_main n
  have hM := main_sevens n
  rw [if_neg (by omega)] at hM
  generalize [109, 97, 105, 110] ++ 32 :: ([102, 48] ++ sevens n) = L2 at *
  obtain ⟨a1, a2, _, a4⟩ := line_at (St.begin (bs ([106, 111, 98, 32, 49, 32, 49] ++ 10 :: (L2 ++ 10 :: R)))) [106, 111, 98, 32, 49, 32, 49] (L2 ++ 10 :: R) (by decide) rfl
  obtain ⟨b1, b2, _, b4⟩ := line_at ⟨bs (L2 ++ 10 :: R), 1, [], 0, [], 1, 1, []⟩ L2 R n10 rfl
  unfold readL headL
  rw [T, a1, a2, job_11, a4, if_pos rfl]
  simp only [St.begin, Int.zero_add]
  rw [if_pos b1, b2, W, hM]
  simp only [b4]
  rfl

theorem lm0_ok (n : Nat) (h : n ≤ 8) : ∃ st, readL (bs (lm0 n ++ endT)) = .ok st := by
  have T : lm0 n ++ endT = [106, 111, 98, 32, 49, 32, 49] ++ 10 :: (([109, 97, 105, 110] ++ 32 :: ([102, 48] ++ sevens n)) ++ 10 :: (fnL 0 ++ 10 :: [101, 110, 100, 10])) := by
    simp [lm0, lmHead, fnL0, endT]
  have hM := main_sevens n
  rw [if_pos h] at hM
  have hd := head_eval [106, 111, 98, 32, 49, 32, 49] ([109, 97, 105, 110] ++ 32 :: ([102, 48] ++ sevens n)) (fnL 0 ++ 10 :: [101, 110, 100, 10]) (by decide) (by simp [sevens_no10]) (x := 1) (y := 1) (nm := bs [102, 48]) (vs := List.replicate n 7) job_11 (by rw [words_main]; exact hM)
  have hz : ∃ k, (bs (fnL 0 ++ 10 :: [101, 110, 100, 10])).size + 1 = k + 1 + 1 := ⟨(bs (fnL 0 ++ 10 :: [101, 110, 100, 10])).size - 1, by
    have : 4 ≤ (bs (fnL 0 ++ 10 :: [101, 110, 100, 10])).size := by rw [bs_size]; simp only [List.length_append, List.length_cons]; omega
    omega⟩
  obtain ⟨k, hz⟩ := hz
  have s1 := step_fn (k + 1) 2 [] 0 (List.replicate n 7) 1 1 [⟨bs [102, 48], 2, -1, 0⟩] [101, 110, 100, 10] numbered_nil (by decide)
  have s1' : bodyL (k + 1 + 1) ⟨bs (fnL 0 ++ 10 :: [101, 110, 100, 10]), 2, [], 0, List.replicate n 7, 1, 1, [⟨bs [102, 48], 2, -1, 0⟩]⟩ = _ := s1
  unfold readL
  rw [T, hd]
  simp only
  rw [hz, s1', body_end k _ rfl]
  simp only
  exact ⟨_, tie_main _ (numbered_one _ rfl) (Nat.zero_lt_one) (show 1 ≤ 300 by decide) _ _ _ _ _ _⟩

/-- A pop. -/
theorem words_pop : wordsOf (bs [32, 32, 112, 111, 112]) = [bs [], bs [], bs [112, 111, 112]] := by kernel_rfl
theorem step_pop (n : Nat) (ln : Int) (f : Fun) (mn : Int) (vs : List Int) (fu tk : Int) (us : List Use) (r : List UInt8) :
    bodyL (n + 1) ⟨bs ([32, 32, 112, 111, 112] ++ 10 :: r), ln, [f], mn, vs, fu, tk, us⟩ = if f.code.length = 256 then .error (ln + 1) else bodyL n ⟨bs r, ln + 1, [⟨f.name, f.args, f.locals, f.code ++ [(2, 0)]⟩], mn, vs, fu, tk, us⟩ := by
  obtain ⟨a1, a2, _, a4⟩ := line_at ⟨bs ([32, 32, 112, 111, 112] ++ 10 :: r), ln, [f], mn, vs, fu, tk, us⟩ [32, 32, 112, 111, 112] r (by decide) rfl
  have e1 : insLineL [bs [], bs [], bs [112, 111, 112]] = some ((2, 0), ⟨#[]⟩) := by kernel_rfl
  rw [bodyL, a1, a2, words_pop, a4, if_pos rfl, if_neg (by decide)]
  simp only [funcL]
  unfold insStep
  rw [e1]
  simp only [List.getLast?_singleton, List.dropLast_singleton]
  by_cases h : f.code.length = 256
  · rw [if_pos h, if_pos h]
  · rw [if_neg h, if_neg h]
    rfl
theorem pops_succ (n : Nat) : pops (n + 1) = [32, 32, 112, 111, 112] ++ 10 :: pops n := by simp [pops, List.replicate_succ]
theorem pops_len (n : Nat) : (pops n).length = 6 * n := by
  induction n with
  | zero => rfl
  | succ n ih => rw [pops_succ]; simp [ih]; omega

theorem pops_body (us : List Use) : ∀ (n K : Nat) (ln : Int) (f : Fun), n + 1 ≤ K → f.code.length ≤ 256 →
    if n + f.code.length ≤ 256 then ∃ g, g.name = f.name ∧ bodyL K ⟨bs (pops n ++ endT), ln, [f], 0, [], 1, 1, us⟩ = .ok ⟨bs [], ln + n + 1, [g], 0, [], 1, 1, us⟩
    else bodyL K ⟨bs (pops n ++ endT), ln, [f], 0, [], 1, 1, us⟩ = .error (ln + (257 - f.code.length : Nat))
  | 0, K, ln, f, hK, hf => by
    obtain ⟨k, rfl⟩ : ∃ k, K = k + 1 := ⟨K - 1, by omega⟩
    rw [if_pos (by omega)]
    refine ⟨f, rfl, ?_⟩
    have e : pops 0 ++ endT = [101, 110, 100, 10] := rfl
    rw [e, body_end k _ rfl]
    simp
  | n + 1, K, ln, f, hK, hf => by
    obtain ⟨k, rfl⟩ : ∃ k, K = k + 1 := ⟨K - 1, by omega⟩
    have e : pops (n + 1) ++ endT = [32, 32, 112, 111, 112] ++ 10 :: (pops n ++ endT) := by rw [pops_succ]; simp
    rw [e, step_pop]
    by_cases h : f.code.length = 256
    · rw [if_neg (by omega), if_pos h, h]
      rfl
    · have ih := pops_body us n k (ln + 1) ⟨f.name, f.args, f.locals, f.code ++ [(2, 0)]⟩ (by omega) (by simp; omega)
      simp only [List.length_append, List.length_cons, List.length_nil] at ih
      by_cases h2 : n + 1 + f.code.length ≤ 256
      · rw [if_pos h2]
        rw [if_pos (by omega)] at ih
        obtain ⟨g, hg, ih⟩ := ih
        refine ⟨g, hg, ?_⟩
        rw [if_neg h, ih]
        congr 2
        omega
      · rw [if_neg h2, if_neg h]
        rw [if_neg (by omega)] at ih
        rw [ih]
        congr 1
        omega

theorem lm1_read (n : Nat) : if n ≤ 256 then ∃ st, readL (bs (lm1 n ++ endT)) = .ok st else readL (bs (lm1 n ++ endT)) = .error 260 := by
  have T : lm1 n ++ endT = [106, 111, 98, 32, 49, 32, 49] ++ 10 :: ([109, 97, 105, 110, 32, 102, 48] ++ 10 :: (fnL 0 ++ 10 :: (pops n ++ endT))) := by
    simp [lm1, lmHead, fnL0]
  have hd := head_eval [106, 111, 98, 32, 49, 32, 49] [109, 97, 105, 110, 32, 102, 48] (fnL 0 ++ 10 :: (pops n ++ endT)) (by decide) (by decide) (x := 1) (y := 1) (nm := bs [102, 48]) (vs := []) (by kernel_rfl) (by kernel_rfl)
  have hz : n + 1 ≤ (bs (fnL 0 ++ 10 :: (pops n ++ endT))).size := by
    rw [bs_size, List.length_append, List.length_cons, List.length_append, pops_len]
    omega
  have s1 := step_fn (bs (fnL 0 ++ 10 :: (pops n ++ endT))).size 2 [] 0 [] 1 1 [⟨bs [102, 48], 2, -1, 0⟩] (pops n ++ endT) numbered_nil (by decide)
  have B := pops_body [⟨bs [102, 48], 2, -1, 0⟩] n (bs (fnL 0 ++ 10 :: (pops n ++ endT))).size (2 + 1) (fn0 0) hz (by decide)
  have e0 : (fn0 0).code.length = 0 := rfl
  rw [e0] at B
  have R : readL (bs (lm1 n ++ endT)) = match bodyL (bs (fnL 0 ++ 10 :: (pops n ++ endT))).size ⟨bs (pops n ++ endT), 2 + 1, [fn0 0], 0, [], 1, 1, [⟨bs [102, 48], 2, -1, 0⟩]⟩ with | .error l => .error l | .ok st2 => tieL st2.uses st2 := by
    unfold readL
    rw [T, hd]
    simp only
    have s1' : bodyL ((bs (fnL 0 ++ 10 :: (pops n ++ endT))).size + 1) ⟨bs (fnL 0 ++ 10 :: (pops n ++ endT)), 2, [], 0, [], 1, 1, [⟨bs [102, 48], 2, -1, 0⟩]⟩ = _ := s1
    rw [s1']
    rfl
  rw [R]
  by_cases h : n ≤ 256
  · rw [if_pos h]
    rw [if_pos (by omega)] at B
    obtain ⟨g, hg, B⟩ := B
    rw [B]
    simp only
    exact ⟨_, tie_main [g] (numbered_one g hg) Nat.zero_lt_one (show 1 ≤ 300 by decide) _ _ _ _ _ _⟩
  · rw [if_neg h]
    rw [if_neg (by omega)] at B
    rw [B]
    rfl

def lm2T (i m : Nat) : List UInt8 := (List.range' i m).flatMap (fun i => fnL i ++ [10]) ++ endT
theorem lm2T_len : ∀ (m i : Nat), m ≤ (lm2T i m).length
  | 0, i => by simp
  | m + 1, i => by
    have ih := lm2T_len m (i + 1)
    have e : lm2T i (m + 1) = (fnL i ++ [10]) ++ lm2T (i + 1) m := by simp [lm2T, List.range'_succ]
    rw [e, List.length_append, List.length_append]
    simp only [List.length_cons, List.length_nil]
    omega
theorem fns_body (us : List Use) : ∀ (m K : Nat) (ln : Int) (fs : List Fun), m + 1 ≤ K → fs.length ≤ 32 → fs.length + m ≤ 301 → Numbered fs →
    if fs.length + m ≤ 32 then ∃ gs, Numbered gs ∧ gs.length = fs.length + m ∧ bodyL K ⟨bs (lm2T fs.length m), ln, fs, 0, [], 1, 1, us⟩ = .ok ⟨bs [], ln + m + 1, gs, 0, [], 1, 1, us⟩
    else bodyL K ⟨bs (lm2T fs.length m), ln, fs, 0, [], 1, 1, us⟩ = .error (ln + (33 - fs.length : Nat))
  | 0, K, ln, fs, hK, hf, _, hN => by
    obtain ⟨k, rfl⟩ : ∃ k, K = k + 1 := ⟨K - 1, by omega⟩
    rw [if_pos (by omega)]
    refine ⟨fs, hN, rfl, ?_⟩
    have e : lm2T fs.length 0 = [101, 110, 100, 10] := rfl
    rw [e, body_end k _ rfl]
    simp
  | m + 1, K, ln, fs, hK, hf, hl, hN => by
    obtain ⟨k, rfl⟩ : ∃ k, K = k + 1 := ⟨K - 1, by omega⟩
    have e : lm2T fs.length (m + 1) = fnL fs.length ++ 10 :: lm2T (fs.length + 1) m := by simp [lm2T, List.range'_succ]
    rw [e]
    by_cases h : fs.length = 32
    · rw [if_neg (by omega), step_fn_no k _ (by omega) _ _ _ _ _ _ _ _ h, h]
      rfl
    · have ih := fns_body us m k (ln + 1) (fs ++ [fn0 fs.length]) (by omega) (by simp; omega) (by simp; omega) (hN.add rfl)
      simp only [List.length_append, List.length_cons, List.length_nil] at ih
      rw [step_fn k _ _ _ _ _ _ _ _ hN (by omega)]
      by_cases h2 : fs.length + (m + 1) ≤ 32
      · rw [if_pos h2]
        rw [if_pos (by omega)] at ih
        obtain ⟨gs, hg, hgl, ih⟩ := ih
        refine ⟨gs, hg, by omega, ?_⟩
        rw [ih]
        congr 2
        omega
      · rw [if_neg h2]
        rw [if_neg (by omega)] at ih
        rw [ih]
        congr 1
        omega

theorem lm2_read (n : Nat) (hn : n ≤ 300) : if n ≤ 31 then ∃ st, readL (bs (lm2 (n + 1) ++ endT)) = .ok st else readL (bs (lm2 (n + 1) ++ endT)) = .error 35 := by
  have T : lm2 (n + 1) ++ endT = [106, 111, 98, 32, 49, 32, 49] ++ 10 :: ([109, 97, 105, 110, 32, 102, 48] ++ 10 :: lm2T 0 (n + 1)) := by
    simp [lm2, lmHead, lm2T, List.range_eq_range']
  have hd := head_eval [106, 111, 98, 32, 49, 32, 49] [109, 97, 105, 110, 32, 102, 48] (lm2T 0 (n + 1)) (by decide) (by decide) (x := 1) (y := 1) (nm := bs [102, 48]) (vs := []) (by kernel_rfl) (by kernel_rfl)
  have hz := lm2T_len (n + 1) 0
  have B := fns_body [⟨bs [102, 48], 2, -1, 0⟩] (n + 1) ((bs (lm2T 0 (n + 1))).size + 1) 2 [] (by rw [bs_size]; omega) (by decide) (by simp; omega) numbered_nil
  simp only [List.length_nil, Nat.zero_add] at B
  unfold readL
  rw [T, hd]
  simp only
  by_cases h : n ≤ 31
  · rw [if_pos h]
    rw [if_pos (by omega)] at B
    obtain ⟨gs, hg, hgl, B⟩ := B
    rw [B]
    simp only
    exact ⟨_, tie_main gs hg (by omega) (by omega) _ _ _ _ _ _⟩
  · rw [if_neg h]
    rw [if_neg (by omega)] at B
    rw [B]
    rfl
end Go.Proofs.YtfnloomcianbiaaDoor
