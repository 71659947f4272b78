/- Texts of many functions, read (for AsmSpawns and AsmLimits). -/
import Derived.Test.YtfnloomcianbiaaDoorNumT
namespace Go.Proofs.YtfnloomcianbiaaDoor
open Go.RowKit Go.ChangeShapes Go.WideShapes Go.ChangeAt Go.Deep

def nmL (i : Nat) : List UInt8 := 102 :: Lib.itoa (i : Int)
def fnL (i : Nat) : List UInt8 := [102, 117, 110, 99] ++ 32 :: (nmL i ++ 32 :: ([48] ++ 32 :: [48]))
def fn0 (i : Nat) : Fun := ⟨bs (nmL i), 0, 0, []⟩

theorem bs_toList (l : List UInt8) : (bs l).toList = l := by rw [ByteArray.toList_eq]; simp [bs]
theorem nm_name (i : Nat) (h : i ≤ 300) : isNameL (nmL i) = true := by
  have a : ∀ i : Fin 301, isNameL (nmL i.val) = true := by decide +kernel
  exact a ⟨i, by omega⟩
theorem nm_inj {i j : Nat} (hi : i ≤ 300) (hj : j ≤ 300) (h : nmL i = nmL j) : i = j := by
  have h' : Lib.itoa (i : Int) = Lib.itoa (j : Int) := by simpa [nmL] using h
  have a := atoi_itoa (i : Int) (by omega)
  have b := atoi_itoa (j : Int) (by omega)
  rw [h'] at a
  have := a.symm.trans b
  injection this with this
  omega
theorem nm_no32 (i : Nat) : (32 : UInt8) ∉ nmL i := by simp [nmL, no32]
theorem nm_no10 (i : Nat) : (10 : UInt8) ∉ nmL i := by simp [nmL, no10]
theorem fn_no10 (i : Nat) : (10 : UInt8) ∉ fnL i := by simp [fnL, nm_no10]
theorem words_fn (i : Nat) : wordsOf (bs (fnL i)) = [bs [102, 117, 110, 99], bs (nmL i), bs [48], bs [48]] := by
  unfold fnL
  rw [words_more [102, 117, 110, 99] _ (by decide), words_more _ _ (nm_no32 i), words_more [48] _ (by decide), words_one [48] (by decide)]

theorem findFrom_no (nm : ByteArray) : ∀ (fs : List Fun) (k : Nat), (∀ f ∈ fs, f.name.toList ≠ nm.toList) → findFrom nm fs k = -1
  | [], _, _ => rfl
  | f :: r, k, h => by
    have h1 : (f.name.toList == nm.toList) = false := by simpa using h f (by simp)
    rw [findFrom, h1, if_neg (by decide)]
    exact findFrom_no nm r (k + 1) fun g hg => h g (by simp [hg])

/-- Functions that are named by their numbers. -/
def Numbered (fs : List Fun) : Prop := ∀ j (h : j < fs.length), fs[j].name = bs (nmL j)
theorem Numbered.add {fs : List Fun} (h : Numbered fs) {f : Fun} (hf : f.name = bs (nmL fs.length)) : Numbered (fs ++ [f]) := by
  intro j hj
  rcases Nat.lt_or_ge j fs.length with h1 | h1
  · rw [List.getElem_append_left h1]; exact h j h1
  · have : j = fs.length := by simp at hj; omega
    subst this
    rw [List.getElem_append_right (Nat.le_refl _)]
    simpa using hf
theorem findFrom_numbered (x : Nat) (hx : x ≤ 300) : ∀ (fs : List Fun) (k : Nat), (∀ j (h : j < fs.length), fs[j].name = bs (nmL (k + j))) → k + fs.length ≤ 300 → findFrom (bs (nmL x)) fs k = if k ≤ x ∧ x < k + fs.length then (x : Int) else -1
  | [], k, _, _ => by
    rw [if_neg (by simp only [List.length_nil]; omega)]; rfl
  | f :: r, k, h, hl => by
    have h0 := h 0 (by simp)
    simp only [List.getElem_cons_zero, Nat.add_zero] at h0
    simp only [List.length_cons] at hl ⊢
    rw [findFrom, h0, bs_toList, bs_toList]
    by_cases e : k = x
    · subst e
      rw [if_pos (by simp), if_pos (by omega)]
    · have : (nmL k == nmL x) = false := by
        rw [beq_eq_false_iff_ne]
        exact fun e' => e (nm_inj (by omega) hx e')
      rw [this, if_neg (by decide), findFrom_numbered x hx r (k + 1) (fun j hj => by
        have := h (j + 1) (by simpa using hj)
        simp only [List.getElem_cons_succ] at this
        rw [this, Nat.add_assoc, Nat.add_comm 1 j]) (by omega)]
      by_cases h2 : k ≤ x ∧ x < k + (r.length + 1)
      · rw [if_pos h2, if_pos (by omega)]
      · rw [if_neg h2, if_neg (by omega)]
theorem Numbered.find {fs : List Fun} (h : Numbered fs) (hl : fs.length ≤ 300) {x : Nat} (hx : x ≤ 300) : findF (bs (nmL x)) fs = if x < fs.length then (x : Int) else -1 := by
  unfold findF
  rw [findFrom_numbered x hx fs 0 (fun j hj => by rw [Nat.zero_add]; exact h j hj) (by omega)]
  simp

theorem numsL_00 : numsL [bs [48], bs [48]] = some [0, 0] := by
  have := numsL_itoa (ns := [0, 0]) (fun n hn => by
    have : n = 0 := by simpa using hn
    omega)
  have e : bs (Lib.itoa 0) = bs [48] := by kernel_rfl
  simpa only [List.map_cons, List.map_nil, e] using this

theorem funcL_fn (i : Nat) (hi : i ≤ 300) {fs : List Fun} : funcL [bs [102, 117, 110, 99], bs (nmL i), bs [48], bs [48]] fs = if funcOk (bs (nmL i)) fs then some (fn0 i) else none := by
  have h2 : isWord (bs [102, 117, 110, 99]) [102, 117, 110, 99] = true := by kernel_rfl
  simp only [funcL, h2, bs_list, nm_name i hi, Bool.and_self, if_true, numsL_00]
  rfl
theorem fn_not_end (x y z u : ByteArray) : isEnd [x, y, z, u] = false := rfl
theorem fn_not_ins (y z u : ByteArray) (st : St) : insStep st [bs [102, 117, 110, 99], y, z, u] = none := by
  have e : (bs [102, 117, 110, 99]).toList.isEmpty = false := by kernel_rfl
  unfold insStep
  simp only [insLineL, e, Bool.false_and, Bool.false_eq_true, if_false]

/-- A function more. -/
theorem step_fn (n : Nat) (ln : Int) (fs : List Fun) (mn : Int) (vs : List Int) (fu tk : Int) (us : List Use) (r : List UInt8) (hN : Numbered fs) (hl : fs.length < 32) :
    bodyL (n + 1) ⟨bs (fnL fs.length ++ 10 :: r), ln, fs, mn, vs, fu, tk, us⟩ = bodyL n ⟨bs r, ln + 1, fs ++ [fn0 fs.length], mn, vs, fu, tk, us⟩ := by
  have w := words_fn fs.length
  have hf := hN.find (by omega) (x := fs.length) (by omega)
  rw [if_neg (by omega)] at hf
  exact body_func n ⟨bs (fnL fs.length ++ 10 :: r), ln, fs, mn, vs, fu, tk, us⟩ _ r (fn_no10 _) rfl (by rw [w]; rfl) (f := fn0 fs.length) (by
    rw [w, funcL_fn _ (by omega), if_pos]
    unfold funcOk
    rw [hf]
    simp
    omega)
/-- A function too many. -/
theorem step_fn_no (n i : Nat) (hi : i ≤ 300) (ln : Int) (fs : List Fun) (mn : Int) (vs : List Int) (fu tk : Int) (us : List Use) (r : List UInt8) (hl : fs.length = 32) :
    bodyL (n + 1) ⟨bs (fnL i ++ 10 :: r), ln, fs, mn, vs, fu, tk, us⟩ = .error (ln + 1) := by
  have w := words_fn i
  obtain ⟨a1, a2, _, a4⟩ := line_at ⟨bs (fnL i ++ 10 :: r), ln, fs, mn, vs, fu, tk, us⟩ (fnL i) r (fn_no10 _) rfl
  rw [bodyL, a1, a2, w, fn_not_end, funcL_fn i hi, if_pos rfl, if_neg (by decide)]
  have hz : funcOk (bs (nmL i)) fs = false := by
    unfold funcOk
    simp [hl]
  rw [hz, if_neg (by decide)]
  simp only [fn_not_ins]

def spL (tt : Nat) : List UInt8 := 32 :: 32 :: ([115, 112, 97, 119, 110] ++ 32 :: nmL tt)
theorem words_sp (tt : Nat) : wordsOf (bs (spL tt)) = [bs [], bs [], bs [115, 112, 97, 119, 110], bs (nmL tt)] := by
  unfold spL
  have a := words_more [] (32 :: ([115, 112, 97, 119, 110] ++ 32 :: nmL tt)) (by simp)
  have b := words_more [] ([115, 112, 97, 119, 110] ++ 32 :: nmL tt) (by simp)
  simp only [List.nil_append] at a b
  rw [a, b, words_more [115, 112, 97, 119, 110] _ (by decide), words_one _ (nm_no32 tt)]
/-- A spawn. -/
theorem step_sp (n : Nat) (ln : Int) (fs : List Fun) (f : Fun) (mn : Int) (vs : List Int) (fu tk : Int) (us : List Use) (r : List UInt8) (tt : Nat) (ht : tt ≤ 300) (hc : f.code = []) :
    bodyL (n + 1) ⟨bs (spL tt ++ 10 :: r), ln, fs ++ [f], mn, vs, fu, tk, us⟩ = bodyL n ⟨bs r, ln + 1, fs ++ [⟨f.name, f.args, f.locals, [(16, 0)]⟩], mn, vs, fu, tk, us ++ [⟨bs (nmL tt), ln + 1, (fs.length : Int), 0⟩]⟩ := by
  have w := words_sp tt
  have hl : (10 : UInt8) ∉ spL tt := by simp [spL, nm_no10]
  have hi : insStep ⟨bs r, ln + 1, fs ++ [f], mn, vs, fu, tk, us⟩ (wordsOf (bs (spL tt))) = some ⟨bs r, ln + 1, fs ++ [⟨f.name, f.args, f.locals, [(16, 0)]⟩], mn, vs, fu, tk, us ++ [⟨bs (nmL tt), ln + 1, (fs.length : Int), 0⟩]⟩ := by
    rw [w]
    have e0 : (bs []).toList.isEmpty = true := by kernel_rfl
    have o : opOf (bs [115, 112, 97, 119, 110]) = some 16 := by kernel_rfl
    have e1 : insL (bs [115, 112, 97, 119, 110]) [bs (nmL tt)] = some (16, 0) := by
      unfold insL
      rw [o]
      simp only [oneName, bs_list, nm_name tt ht, if_true]
      rfl
    have e2 : insLineL [bs [], bs [], bs [115, 112, 97, 119, 110], bs (nmL tt)] = some ((16, 0), bs (nmL tt)) := by
      simp only [insLineL, e0, e1, Bool.and_self, if_true]
      rfl
    unfold insStep
    rw [e2]
    simp only [List.getLast?_append, List.getLast?_singleton, Option.some_or, List.dropLast_concat]
    rw [if_neg (by rw [hc]; decide)]
    unfold St.add
    simp only [hc, List.nil_append, List.length_nil, if_true]
    rfl
  exact body_ins n ⟨bs (spL tt ++ 10 :: r), ln, fs ++ [f], mn, vs, fu, tk, us⟩ _ r hl rfl (by rw [w]; rfl) (by rw [w]; exact not_func _ _ _ _) hi

/-- The lines of one function. -/
def spLn (fr tt i : Nat) : List UInt8 := fnL i ++ 10 :: (if i = fr then spL tt ++ [10] else [])
def spF (fr i : Nat) : Fun := if i = fr then ⟨bs (nmL i), 0, 0, [(16, 0)]⟩ else fn0 i
def spFs (fr n : Nat) : List Fun := (List.range n).map (spF fr)
def spUs (fr tt n : Nat) : List Use := ⟨bs [102, 48], 2, -1, 0⟩ :: (if fr < n then [⟨bs (nmL tt), (4 + fr : Nat), (fr : Int), 0⟩] else [])
def spTail (fr tt i m : Nat) : List UInt8 := (List.range' i m).flatMap (spLn fr tt) ++ [101, 110, 100, 10]
theorem spF_name (fr i : Nat) : (spF fr i).name = bs (nmL i) := by unfold spF; split <;> rfl
theorem spFs_numbered (fr n : Nat) : Numbered (spFs fr n) := by
  intro j hj
  simp [spFs, spF_name]
theorem spFs_len (fr n : Nat) : (spFs fr n).length = n := by simp [spFs]
theorem spFs_succ (fr n : Nat) : spFs fr (n + 1) = spFs fr n ++ [spF fr n] := by simp [spFs, List.range_succ]

theorem sp_body (fr tt : Nat) (ht : tt ≤ 300) : ∀ (m i K : Nat), i + m ≤ 32 → 2 * m + 1 ≤ K →
    bodyL K ⟨bs (spTail fr tt i m), (2 + i + (if fr < i then 1 else 0) : Nat), spFs fr i, 0, [], 5, 5, spUs fr tt i⟩ = .ok ⟨bs [], (2 + (i + m) + (if fr < i + m then 1 else 0) + 1 : Nat), spFs fr (i + m), 0, [], 5, 5, spUs fr tt (i + m)⟩
  | 0, i, K, _, hK => by
    obtain ⟨k, rfl⟩ : ∃ k, K = k + 1 := ⟨K - 1, by omega⟩
    have e : spTail fr tt i 0 = [101, 110, 100, 10] := by simp [spTail]
    rw [e, body_end k _ rfl]
    simp only [Nat.add_zero]
    rfl
  | m + 1, i, K, hi, hK => by
    obtain ⟨k, rfl⟩ : ∃ k, K = k + 1 + 1 := ⟨K - 2, by omega⟩
    have e : spTail fr tt i (m + 1) = fnL i ++ 10 :: ((if i = fr then spL tt ++ [10] else []) ++ spTail fr tt (i + 1) m) := by
      simp [spTail, List.range'_succ, spLn]
    have hL := spFs_len fr i
    have s1 := step_fn (k + 1) (2 + i + (if fr < i then 1 else 0) : Nat) (spFs fr i) 0 [] 5 5 (spUs fr tt i) ((if i = fr then spL tt ++ [10] else []) ++ spTail fr tt (i + 1) m) (spFs_numbered fr i) (by omega)
    rw [hL] at s1
    rw [e, s1]
    by_cases h : i = fr
    · subst h
      have h1 : ¬ i < i := by omega
      have h2 : i < i + 1 := by omega
      have s2 := step_sp k (((2 + i + 0 : Nat) : Int) + 1) (spFs i i) (fn0 i) 0 [] 5 5 (spUs i tt i) (spTail i tt (i + 1) m) tt ht rfl
      rw [hL] at s2
      have ih := sp_body i tt ht m (i + 1) k (by omega) (by omega)
      simp only [if_true, if_neg h1, List.append_assoc, List.cons_append, List.nil_append] at s2 ⊢
      rw [s2]
      have c1 : spFs i i ++ [⟨(fn0 i).name, (fn0 i).args, (fn0 i).locals, [(16, 0)]⟩] = spFs i (i + 1) := by
        rw [spFs_succ, spF, if_pos rfl]; rfl
      have c2 : spUs i tt i ++ [⟨bs (nmL tt), ((2 + i + 0 : Nat) : Int) + 1 + 1, (i : Int), 0⟩] = spUs i tt (i + 1) := by
        unfold spUs
        rw [if_neg h1, if_pos h2]
        simp only [List.cons_append, List.nil_append]
        congr 3
        omega
      rw [c1, c2]
      rw [if_pos h2] at ih
      have c3 : ((2 + i + 0 : Nat) : Int) + 1 + 1 = (2 + (i + 1) + 1 : Nat) := by omega
      rw [c3, ih]
      rw [show i + 1 + m = i + (m + 1) by omega]
    · have ih := sp_body fr tt ht m (i + 1) (k + 1) (by omega) (by omega)
      simp only [if_neg h, List.nil_append]
      have c1 : spFs fr i ++ [fn0 i] = spFs fr (i + 1) := by rw [spFs_succ, spF, if_neg h]
      have c2 : spUs fr tt i = spUs fr tt (i + 1) := by
        unfold spUs
        by_cases h1 : fr < i
        · rw [if_pos h1, if_pos (by omega)]
        · rw [if_neg h1, if_neg (by omega)]
      have c3 : ((2 + i + (if fr < i then 1 else 0) : Nat) : Int) + 1 = (2 + (i + 1) + (if fr < i + 1 then 1 else 0) : Nat) := by
        by_cases h1 : fr < i
        · rw [if_pos h1, if_pos (by omega)]; omega
        · rw [if_neg h1, if_neg (by omega)]; omega
      rw [c1, c2, c3, ih, show i + 1 + m = i + (m + 1) by omega]

def spHead : List UInt8 := [106, 111, 98, 32, 53, 32, 53, 10, 109, 97, 105, 110, 32, 102, 48, 10]
def spText (fr tt n : Nat) : List UInt8 := spHead ++ (List.range n).flatMap (spLn fr tt)

theorem spLn_len (fr tt i : Nat) : 10 ≤ (spLn fr tt i).length := by
  simp [spLn, fnL, nmL]
  omega
theorem spTail_size (fr tt : Nat) : ∀ (m i : Nat), 10 * m ≤ (spTail fr tt i m).length
  | 0, i => by simp
  | m + 1, i => by
    have ih := spTail_size fr tt m (i + 1)
    have h1 := spLn_len fr tt i
    have e : spTail fr tt i (m + 1) = spLn fr tt i ++ spTail fr tt (i + 1) m := by simp [spTail, List.range'_succ]
    rw [e, List.length_append]
    omega

/-- AsmSpawns' text, read. -/
theorem spawns_read (n fr tt : Nat) (hn : 1 ≤ n ∧ n ≤ 20) (hf : fr < n) (ht : tt ≤ 30) :
    readL (bs (spText fr tt n ++ [101, 110, 100, 10])) = if tt < n then .ok ⟨bs [], (2 + n + 1 + 1 : Nat), (spFs fr n).modify fr (fun f => f.setN 0 tt), 0, [], 5, 5, spUs fr tt n⟩ else .error (4 + fr : Nat) := by
  have T : spText fr tt n ++ [101, 110, 100, 10] = [106, 111, 98, 32, 53, 32, 53] ++ 10 :: ([109, 97, 105, 110, 32, 102, 48] ++ 10 :: spTail fr tt 0 n) := by
    simp [spText, spHead, spTail, List.range_eq_range']
  have hd := head_eval [106, 111, 98, 32, 53, 32, 53] [109, 97, 105, 110, 32, 102, 48] (spTail fr tt 0 n) (by decide) (by decide) (x := 5) (y := 5) (nm := bs [102, 48]) (vs := []) (by kernel_rfl) (by kernel_rfl)
  unfold readL
  rw [T, hd]
  simp only
  have hz := spTail_size fr tt n 0
  have B := sp_body fr tt (by omega) n 0 ((bs (spTail fr tt 0 n)).size + 1) (by omega) (by rw [bs_size]; omega)
  rw [if_neg (show ¬ fr < 0 by omega), Nat.zero_add, if_pos hf] at B
  have e0 : spUs fr tt 0 = [⟨bs [102, 48], 2, -1, 0⟩] := by simp [spUs]
  have e1 : spFs fr 0 = [] := rfl
  rw [e0, e1] at B
  have B' : bodyL ((bs (spTail fr tt 0 n)).size + 1) ⟨bs (spTail fr tt 0 n), 2, [], 0, [], 5, 5, [⟨bs [102, 48], 2, -1, 0⟩]⟩ = _ := B
  rw [B']
  simp only
  have hU : spUs fr tt n = [⟨bs [102, 48], 2, -1, 0⟩, ⟨bs (nmL tt), (4 + fr : Nat), (fr : Int), 0⟩] := by simp [spUs, hf]
  rw [hU]
  have hN := spFs_numbered fr n
  have hL := spFs_len fr n
  have f0 : findF (bs [102, 48]) (spFs fr n) = 0 := by
    have := hN.find (by omega) (x := 0) (by omega)
    rw [if_pos (by omega)] at this
    have e : nmL 0 = [102, 48] := by kernel_rfl
    rw [e] at this
    exact this
  have f1 := hN.find (by omega) (x := tt) (by omega)
  rw [hL] at f1
  rw [tieL]
  simp only [f0]
  rw [if_neg (by decide), if_pos (by decide), tieL]
  simp only [f1]
  by_cases h : tt < n
  · rw [if_pos h, if_neg (by omega), if_neg (by omega), tieL, if_pos h]
    unfold St.setN
    simp only [Int.toNat_natCast]
    rfl
  · rw [if_neg h, if_pos (by omega), if_neg h]
end Go.Proofs.YtfnloomcianbiaaDoor
