/- What Print makes of a job that can be written is read as the job. -/
import Derived.Test.YtfnloomcianbiaaGreatDoorNumT
namespace Go.Proofs.YtfnloomcianbiaaGreatDoor
open Go.RowKit Go.ChangeShapes Go.WideShapes Go.ChangeAt Go.Deep

theorem words_nums : ∀ (ns : List Int) (l : List UInt8), (32 : UInt8) ∉ l → wordsOf (bs (l ++ numsT ns)) = bs l :: ns.map fun n => bs (Lib.itoa n)
  | [], l, h => by simpa [numsT] using words_one l h
  | n :: r, l, h => by
    have e : numsT (n :: r) = 32 :: (Lib.itoa n ++ numsT r) := by simp [numsT]
    rw [e, words_more l _ h, words_nums r _ (no32 n)]
    rfl
theorem numsT_no10 (ns : List Int) : (10 : UInt8) ∉ numsT ns := by
  intro h
  simp only [numsT, List.mem_flatMap] at h
  obtain ⟨n, _, h⟩ := h
  rcases List.mem_cons.1 h with h | h
  · revert h; decide
  · exact no10 n h
theorem name_no {l : List UInt8} (h : isNameL l = true) : (32 : UInt8) ∉ l ∧ (10 : UInt8) ∉ l := by
  unfold isNameL at h
  simp only [Bool.and_eq_true, List.all_eq_true, Bool.or_eq_true] at h
  have h2 := h.2
  constructor
  · intro hc
    have := h2 _ hc
    revert this
    decide
  · intro hc
    have := h2 _ hc
    revert this
    decide
theorem kind_facts (op : Nat) (h1 : 1 ≤ op) (h2 : op ≤ 19) : opOf (kindOf (op : Int)).word = some op ∧ ((kindOf (op : Int)).word.data.toList.all fun c => !(c == 32) && !(c == 10)) = true := by
  have a : ∀ k : Fin 20, 1 ≤ k.val → (decide (opOf (kindOf (k.val : Int)).word = some k.val) && ((kindOf (k.val : Int)).word.data.toList.all fun c => !(c == 32) && !(c == 10))) = true := by decide +kernel
  have := a ⟨op, by omega⟩ h1
  simp only [Bool.and_eq_true, decide_eq_true_eq] at this
  exact this
theorem word_empty {op : Int} (h : (kindOf op).word.toList.isEmpty = false) : 1 ≤ op ∧ op ≤ 19 := by
  by_cases hh : 1 ≤ op ∧ op ≤ 19
  · exact hh
  · unfold kindOf at h
    rw [if_neg hh] at h
    have : (noKind.word.toList.isEmpty) = true := by kernel_rfl
    rw [this] at h
    cases h

def nameAt (fs : List Fun) (n : Int) : List UInt8 := ((fs[n.toNat]?).map fun f => f.name.data.toList).getD []
def zeroN (x : Int × Int) : Int × Int := if x.1 = 16 then (16, 0) else x
def zeroF (f : Fun) : Fun := ⟨f.name, f.args, f.locals, f.code.map zeroN⟩

/-- An instruction's line, read. -/
theorem ins_words (x : Int × Int) (fs : List Fun) (hp : plainIns x.1 x.2 fs.length = true) (hN : ∀ f ∈ fs, isNameL f.name.data.toList = true) (hx : In64 [x.2]) :
    ∃ l y, insText x.1 x.2 fs = l ++ [10] ∧ (10 : UInt8) ∉ l ∧ (∃ p q, wordsOf (bs l) = bs [] :: bs [] :: p :: q) ∧ insLineL (wordsOf (bs l)) = some (zeroN x, y) ∧ (x.1 = 16 → y = bs (nameAt fs x.2)) := by
  obtain ⟨op, n⟩ := x
  simp only at hp hx ⊢
  unfold plainIns at hp
  by_cases hw : (kindOf op).word.toList.isEmpty = true
  · rw [if_pos hw] at hp; cases hp
  rw [if_neg hw] at hp
  have hw' : (kindOf op).word.toList.isEmpty = false := by simpa using hw
  obtain ⟨h1, h2⟩ := word_empty hw'
  obtain ⟨k, rfl⟩ : ∃ k : Nat, op = (k : Int) := ⟨op.toNat, by omega⟩
  obtain ⟨ko, kc⟩ := kind_facts k (by omega) (by omega)
  have kc32 : (32 : UInt8) ∉ (kindOf (k : Int)).word.data.toList := fun h => by
    have := List.all_eq_true.1 kc _ h
    revert this; decide
  have kc10 : (10 : UInt8) ∉ (kindOf (k : Int)).word.data.toList := fun h => by
    have := List.all_eq_true.1 kc _ h
    revert this; decide
  have hwb : (kindOf (k : Int)).word = bs (kindOf (k : Int)).word.data.toList := (bs_data _).symm
  have e0 : (bs []).toList.isEmpty = true := by kernel_rfl
  have lead : ∀ r : List UInt8, wordsOf (bs (32 :: 32 :: r)) = bs [] :: bs [] :: wordsOf (bs r) := fun r => by
    have a := words_more [] (32 :: r) (by simp)
    have b := words_more [] r (by simp)
    simp only [List.nil_append] at a b
    rw [a, b]
  by_cases h16 : (k : Int) = 16
  · rw [if_pos h16] at hp
    have hk : k = 16 := by omega
    have hn : 0 ≤ n ∧ n < (fs.length : Int) := by
      unfold isFuncL at hp
      simpa using hp
    obtain ⟨f, hf⟩ : ∃ f, fs[n.toNat]? = some f := ⟨_, List.getElem?_eq_getElem (show n.toNat < fs.length by omega)⟩
    have hnm := hN f (List.mem_of_getElem? hf)
    have hna : nameAt fs n = f.name.data.toList := by simp [nameAt, hf]
    have W : wordsOf (bs (32 :: 32 :: ((kindOf (k : Int)).word.data.toList ++ 32 :: nameAt fs n))) = [bs [], bs [], (kindOf (k : Int)).word, bs (nameAt fs n)] := by
      rw [lead, words_more _ _ kc32, words_one _ (by rw [hna]; exact (name_no hnm).1), ← hwb]
    refine ⟨32 :: 32 :: ((kindOf (k : Int)).word.data.toList ++ 32 :: nameAt fs n), bs (nameAt fs n), ?_, ?_, ⟨_, _, W⟩, ?_, fun _ => rfl⟩
    · simp [insText, behindT, h16, nameAt]
    · have := (name_no hnm).2
      rw [← hna] at this
      simp [kc10, this]
    · rw [W]
      have e1 : insL (kindOf (k : Int)).word [bs (nameAt fs n)] = some (16, 0) := by
        unfold insL
        rw [ko]
        simp only
        rw [if_pos hk, if_pos (by simp only [oneName, bs_list]; rw [hna]; exact hnm), hk]
        rfl
      simp only [insLineL, e0, e1, Bool.and_self, if_true]
      rw [zeroN, if_pos h16]
      rfl
  · rw [if_neg h16] at hp
    have hk : k ≠ 16 := by omega
    by_cases hh : (kindOf (k : Int)).hasN = true
    · have W : wordsOf (bs (32 :: 32 :: ((kindOf (k : Int)).word.data.toList ++ 32 :: Lib.itoa n))) = [bs [], bs [], (kindOf (k : Int)).word, bs (Lib.itoa n)] := by
        rw [lead, words_more _ _ kc32, words_one _ (no32 n), ← hwb]
      refine ⟨32 :: 32 :: ((kindOf (k : Int)).word.data.toList ++ 32 :: Lib.itoa n), bs (Lib.itoa n), ?_, ?_, ⟨_, _, W⟩, ?_, fun h => absurd h h16⟩
      · simp only [insText, behindT]
        rw [if_neg h16, if_pos hh]
        simp
      · simp [kc10, no10]
      · rw [W]
        have e1 : insL (kindOf (k : Int)).word [bs (Lib.itoa n)] = some ((k : Int), n) := by
          unfold insL
          rw [ko]
          simp only
          rw [if_neg hk, hh, if_neg (by decide)]
          have := numsL_itoa hx
          simp only [List.map_cons, List.map_nil] at this
          rw [this]; rfl
        simp only [insLineL, e0, e1, Bool.and_self, if_true]
        rw [zeroN, if_neg h16]
        rfl
    · have hh' : (kindOf (k : Int)).hasN = false := by simpa using hh
      rw [hh', Bool.false_or] at hp
      have hn : n = 0 := by simpa using hp
      have W : wordsOf (bs (32 :: 32 :: (kindOf (k : Int)).word.data.toList)) = [bs [], bs [], (kindOf (k : Int)).word] := by
        rw [lead, words_one _ kc32, ← hwb]
      refine ⟨32 :: 32 :: (kindOf (k : Int)).word.data.toList, ⟨#[]⟩, ?_, ?_, ⟨_, _, W⟩, ?_, fun h => absurd h h16⟩
      · simp only [insText, behindT]
        rw [if_neg h16, if_neg hh]
        simp
      · simp [kc10]
      · rw [W]
        have e1 : insL (kindOf (k : Int)).word [] = some ((k : Int), 0) := by
          unfold insL
          rw [ko]
          simp only
          rw [if_neg hk, hh', if_pos rfl]
          simp
        simp only [insLineL, e0, e1, Bool.and_self, if_true]
        rw [zeroN, if_neg h16, hn]
        rfl

/-- The uses of a function's spawns. -/
def usesC (fs : List Fun) (ln i : Int) : Int → List (Int × Int) → Int → List Use
  | _, [], _ => []
  | k, x :: c, d => (if x.1 = 16 then [⟨bs (nameAt fs x.2), ln + d + 1, i, k⟩] else []) ++ usesC fs ln i (k + 1) c (d + 1)

theorem code_body (fs : List Fun) (hN : ∀ f ∈ fs, isNameL f.name.data.toList = true) (gs : List Fun) (mn : Int) (vs : List Int) (fu tk : Int) (r : List UInt8) (ln : Int) : ∀ (c : List (Int × Int)) (K : Nat) (d : Int) (f : Fun) (us : List Use),
    (∀ x ∈ c, plainIns x.1 x.2 fs.length = true ∧ In64 [x.2]) → f.code.length + c.length ≤ 256 → (codeT c fs ++ r).length + 1 ≤ K →
    ∃ K', r.length + 1 ≤ K' ∧ bodyL K ⟨bs (codeT c fs ++ r), ln + d, gs ++ [f], mn, vs, fu, tk, us⟩ = bodyL K' ⟨bs r, ln + d + c.length, gs ++ [⟨f.name, f.args, f.locals, f.code ++ c.map zeroN⟩], mn, vs, fu, tk, us ++ usesC fs ln (gs.length : Int) (f.code.length : Int) c d⟩
  | [], K, d, f, us, _, _, hK => ⟨K, by simpa [codeT] using hK, by simp [codeT, usesC]⟩
  | x :: c, K, d, f, us, hx, hl, hK => by
    obtain ⟨l, y, hT, h10, ⟨p, q, hw⟩, hi, hy⟩ := ins_words x fs (hx x (by simp)).1 hN (hx x (by simp)).2
    have e : codeT (x :: c) fs ++ r = l ++ 10 :: (codeT c fs ++ r) := by simp [codeT, hT]
    obtain ⟨k, rfl⟩ : ∃ k, K = k + 1 := ⟨K - 1, by omega⟩
    simp only [List.length_cons] at hl
    have hst : insStep ⟨bs (codeT c fs ++ r), ln + d + 1, gs ++ [f], mn, vs, fu, tk, us⟩ (wordsOf (bs l)) = some ⟨bs (codeT c fs ++ r), ln + (d + 1), gs ++ [⟨f.name, f.args, f.locals, f.code ++ [zeroN x]⟩], mn, vs, fu, tk, us ++ (if x.1 = 16 then [⟨bs (nameAt fs x.2), ln + d + 1, (gs.length : Int), (f.code.length : Int)⟩] else [])⟩ := by
      unfold insStep
      rw [hi]
      simp only [List.getLast?_append, List.getLast?_singleton, Option.some_or, List.dropLast_concat]
      rw [if_neg (by omega)]
      unfold St.add
      by_cases h16 : x.1 = 16
      · have hz : (zeroN x).1 = 16 := by unfold zeroN; rw [if_pos h16]
        simp only [if_pos hz, if_pos h16, hy h16]
        rw [Int.add_assoc]
      · have hz : (zeroN x).1 ≠ 16 := by unfold zeroN; rw [if_neg h16]; exact h16
        simp only [if_neg hz, if_neg h16, List.append_nil]
        rw [Int.add_assoc]
    have B := body_ins k ⟨bs (l ++ 10 :: (codeT c fs ++ r)), ln + d, gs ++ [f], mn, vs, fu, tk, us⟩ l (codeT c fs ++ r) h10 rfl (by rw [hw]; rfl) (by
      rw [hw]
      rcases q with _ | ⟨q1, _ | ⟨q2, q3⟩⟩
      · rfl
      · exact not_func _ _ _ _
      · rfl) hst
    rw [e] at hK ⊢
    rw [B]
    obtain ⟨K', hK', ih⟩ := code_body fs hN gs mn vs fu tk r ln c k (d + 1) ⟨f.name, f.args, f.locals, f.code ++ [zeroN x]⟩ (us ++ (if x.1 = 16 then [⟨bs (nameAt fs x.2), ln + d + 1, (gs.length : Int), (f.code.length : Int)⟩] else [])) (fun z hz => hx z (by simp [hz])) (by simp; omega) (by
      simp only [List.length_append, List.length_cons] at hK ⊢
      omega)
    refine ⟨K', hK', ?_⟩
    rw [ih]
    simp only [List.length_append, List.length_cons, List.length_nil, List.append_assoc, List.cons_append, List.nil_append, List.map_cons, usesC]
    congr 2
    omega

def usesA (fs : List Fun) : Int → Int → List Fun → List Use
  | _, _, [] => []
  | ln, i, f :: hs => usesC fs (ln + 1) i 0 f.code 0 ++ usesA fs (ln + 1 + f.code.length) (i + 1) hs
def linesA : List Fun → Nat
  | [] => 0
  | f :: hs => 1 + f.code.length + linesA hs

theorem findFrom_zero (nm : ByteArray) : ∀ (fs : List Fun) (k : Nat), findFrom nm (fs.map zeroF) k = findFrom nm fs k
  | [], _ => rfl
  | f :: r, k => by
    rw [List.map_cons, findFrom, findFrom, findFrom_zero nm r (k + 1)]
    rfl

theorem funcs_body (fs : List Fun) (args : List Int) (fu tk : Int) (hI : JobIn fs args fu tk) (h32 : fs.length ≤ 32) (hO : ∀ k f, fs[k]? = some f → isNameL f.name.data.toList = true ∧ findF f.name (fs.take k) < 0 ∧ plainCode f.code fs.length = true) (mn : Int) (vs : List Int) : ∀ (hs ps : List Fun) (K : Nat) (ln : Int) (us : List Use),
    fs = ps ++ hs → (hs.flatMap (fun f => funcT f fs) ++ [101, 110, 100, 10]).length + 1 ≤ K →
    bodyL K ⟨bs (hs.flatMap (fun f => funcT f fs) ++ [101, 110, 100, 10]), ln, ps.map zeroF, mn, vs, fu, tk, us⟩ = .ok ⟨bs [], ln + linesA hs + 1, fs.map zeroF, mn, vs, fu, tk, us ++ usesA fs ln (ps.length : Int) hs⟩
  | [], ps, K, ln, us, hp, hK => by
    obtain ⟨k, rfl⟩ : ∃ k, K = k + 1 := ⟨K - 1, by omega⟩
    simp only [List.flatMap_nil, List.nil_append]
    rw [body_end k _ rfl]
    simp [linesA, usesA, hp]
  | f :: hs, ps, K, ln, us, hp, hK => by
    have hat : fs[ps.length]? = some f := by rw [hp]; simp
    obtain ⟨hn, hfind, hc⟩ := hO _ _ hat
    have htake : fs.take ps.length = ps := by rw [hp]; simp
    rw [htake] at hfind
    have hN : ∀ g ∈ fs, isNameL g.name.data.toList = true := fun g hg => by
      obtain ⟨k, hk, rfl⟩ := List.getElem_of_mem hg
      exact (hO k _ (List.getElem?_eq_getElem hk)).1
    have hmem : f ∈ fs := List.mem_of_getElem? hat
    obtain ⟨i1, _, _, i4⟩ := hI.funcs f hmem
    unfold plainCode at hc
    simp only [Bool.and_eq_true, decide_eq_true_eq, List.all_eq_true] at hc
    have hb : f.name = bs f.name.data.toList := (bs_data _).symm
    obtain ⟨L, hL⟩ : ∃ L, L = [102, 117, 110, 99] ++ 32 :: (f.name.data.toList ++ numsT [f.args, f.locals]) := ⟨_, rfl⟩
    have eT : funcT f fs = L ++ 10 :: codeT f.code fs := by rw [hL]; simp [funcT]
    have hW : wordsOf (bs L) = [bs [102, 117, 110, 99], f.name, bs (Lib.itoa f.args), bs (Lib.itoa f.locals)] := by
      rw [hL, words_more [102, 117, 110, 99] _ (by decide), words_nums _ _ (name_no hn).1, ← hb]
      rfl
    have h10 : (10 : UInt8) ∉ L := by
      rw [hL]
      simp [numsT_no10, (name_no hn).2]
    obtain ⟨R, hR⟩ : ∃ R, R = hs.flatMap (fun f => funcT f fs) ++ [101, 110, 100, 10] := ⟨_, rfl⟩
    have e : (f :: hs).flatMap (fun f => funcT f fs) ++ [101, 110, 100, 10] = L ++ 10 :: (codeT f.code fs ++ R) := by
      rw [List.flatMap_cons, eT, hR]; simp
    rw [e] at hK ⊢
    obtain ⟨k, rfl⟩ : ∃ k, K = k + 1 := ⟨K - 1, by omega⟩
    have hfl : funcL (wordsOf (bs L)) (ps.map zeroF) = some ⟨f.name, f.args, f.locals, []⟩ := by
      rw [hW]
      have h1 := numsL_itoa i1
      have h2 : isWord (bs [102, 117, 110, 99]) [102, 117, 110, 99] = true := by kernel_rfl
      have h3 : funcOk f.name (ps.map zeroF) = true := by
        unfold funcOk findF
        rw [findFrom_zero]
        have hl : ps.length < fs.length := by rw [hp]; simp
        have hfind' : findFrom f.name ps 0 < 0 := hfind
        simp [hfind']
        omega
      simp only [List.map_cons, List.map_nil] at h1
      simp only [funcL, h1, h2, hn, h3, Bool.and_self, if_true]
    have B := body_func k ⟨bs (L ++ 10 :: (codeT f.code fs ++ R)), ln, ps.map zeroF, mn, vs, fu, tk, us⟩ L (codeT f.code fs ++ R) h10 rfl (by rw [hW]; rfl) hfl
    rw [B]
    obtain ⟨K', hK', C⟩ := code_body fs hN (ps.map zeroF) mn vs fu tk R (ln + 1) f.code k 0 ⟨f.name, f.args, f.locals, []⟩ us (fun x hx => ⟨hc.2 x hx, i4 x hx⟩) (by simp; exact hc.1) (by
      simp only [List.length_append, List.length_cons] at hK ⊢
      omega)
    simp only [Int.add_zero, List.nil_append, List.length_nil, List.length_map] at C
    simp only
    rw [C, hR]
    have z : ps.map zeroF ++ [⟨f.name, f.args, f.locals, f.code.map zeroN⟩] = (ps ++ [f]).map zeroF := by simp [zeroF]
    rw [z]
    have ih := funcs_body fs args fu tk hI h32 hO mn vs hs (ps ++ [f]) K' (ln + 1 + f.code.length) (us ++ usesC fs (ln + 1) (ps.length : Int) ((0 : Nat) : Int) f.code 0) (by rw [hp]; simp) (by rw [← hR]; exact hK')
    rw [ih]
    simp only [linesA, usesA, List.length_append, List.length_cons, List.length_nil, List.append_assoc]
    congr 2
    omega

/-- What the uses of a code are. -/
theorem usesC_mem (fs : List Fun) (ln i : Int) (u : Use) : ∀ (c : List (Int × Int)) (k : Nat) (d : Int), u ∈ usesC fs ln i (k : Int) c d ↔ ∃ (j : Nat) (n : Int), c[j]? = some (16, n) ∧ u = ⟨bs (nameAt fs n), ln + d + j + 1, i, ((k + j : Nat) : Int)⟩
  | [], k, d => by simp [usesC]
  | x :: c, k, d => by
    have ih := usesC_mem fs ln i u c (k + 1) (d + 1)
    have e1 : ((k + 1 : Nat) : Int) = (k : Int) + 1 := by omega
    rw [e1] at ih
    rw [usesC, List.mem_append, ih]
    constructor
    · rintro (h | ⟨j, n, h1, h2⟩)
      · by_cases h16 : x.1 = 16
        · rw [if_pos h16] at h
          refine ⟨0, x.2, ?_, ?_⟩
          · show some x = _
            rw [← h16]
          · simp only [List.mem_singleton] at h
            rw [h]
            simp
        · rw [if_neg h16] at h; cases h
      · refine ⟨j + 1, n, h1, ?_⟩
        rw [h2]
        congr 1 <;> omega
    · rintro ⟨j, n, h1, h2⟩
      cases j with
      | zero =>
        have h1' : x = (16, n) := by simpa using h1
        subst h1'
        left
        rw [if_pos rfl, h2]
        simp
      | succ j =>
        right
        refine ⟨j, n, h1, ?_⟩
        rw [h2]
        congr 1 <;> omega
theorem usesA_mem (fs : List Fun) (u : Use) : ∀ (hs : List Fun) (ln : Int) (i : Nat), u ∈ usesA fs ln (i : Int) hs → ∃ (j k : Nat) (f : Fun) (n : Int), hs[j]? = some f ∧ f.code[k]? = some (16, n) ∧ u.name = bs (nameAt fs n) ∧ u.i = ((i + j : Nat) : Int) ∧ u.k = (k : Int)
  | [], ln, i, h => by cases h
  | f :: hs, ln, i, h => by
    rw [usesA, List.mem_append] at h
    rcases h with h | h
    · obtain ⟨j, n, h1, rfl⟩ := (usesC_mem fs (ln + 1) (i : Int) u f.code 0 0).1 h
      exact ⟨0, j, f, n, rfl, h1, rfl, rfl, by simp⟩
    · have e1 : (i : Int) + 1 = ((i + 1 : Nat) : Int) := by omega
      rw [e1] at h
      obtain ⟨j, k, g, n, h1, h2, h3, h4, h5⟩ := usesA_mem fs u hs _ (i + 1) h
      exact ⟨j + 1, k, g, n, h1, h2, h3, by rw [h4]; omega, h5⟩
theorem usesA_has (fs : List Fun) : ∀ (hs : List Fun) (ln : Int) (i j k : Nat) (f : Fun) (n : Int), hs[j]? = some f → f.code[k]? = some (16, n) → ∃ u ∈ usesA fs ln (i : Int) hs, u.name = bs (nameAt fs n) ∧ u.i = ((i + j : Nat) : Int) ∧ u.k = (k : Int)
  | [], ln, i, j, k, f, n, h, _ => by simp at h
  | g :: hs, ln, i, j, k, f, n, h1, h2 => by
    cases j with
    | zero =>
      have : g = f := by simpa using h1
      subst this
      refine ⟨⟨bs (nameAt fs n), ln + 1 + 0 + k + 1, (i : Int), ((0 + k : Nat) : Int)⟩, ?_, rfl, rfl, by simp⟩
      rw [usesA, List.mem_append]
      exact .inl ((usesC_mem fs (ln + 1) (i : Int) _ g.code 0 0).2 ⟨k, n, h2, rfl⟩)
    | succ j =>
      obtain ⟨u, hu, h3, h4, h5⟩ := usesA_has fs hs (ln + 1 + g.code.length) (i + 1) j k f n h1 h2
      have e1 : (i : Int) + 1 = ((i + 1 : Nat) : Int) := by omega
      refine ⟨u, ?_, h3, by rw [h4]; omega, h5⟩
      rw [usesA, List.mem_append, e1]
      exact .inr hu

/-- Names that are each once: find answers their place. -/
theorem find_once (fs : List Fun) (hO : ∀ k f, fs[k]? = some f → findF f.name (fs.take k) < 0) {n : Nat} {f : Fun} (h : fs[n]? = some f) : findF f.name fs = (n : Int) := by
  have hlt : n < fs.length := (List.getElem?_eq_some_iff.1 h).1
  have h0 := hO n f h
  have gen : ∀ (gs : List Fun) (m k : Nat), gs[m]? = some f → findFrom f.name (gs.take m) k < 0 → findFrom f.name gs k = ((k + m : Nat) : Int) := by
    intro gs
    induction gs with
    | nil => intro m k h; simp at h
    | cons g r ih =>
      intro m k hm hf
      cases m with
      | zero =>
        have : g = f := by simpa using hm
        subst this
        rw [findFrom, if_pos (by simp)]; rfl
      | succ m =>
        rw [List.take_succ_cons, findFrom] at hf
        by_cases he : (g.name.toList == f.name.toList) = true
        · rw [if_pos he] at hf; omega
        · rw [if_neg he] at hf
          rw [findFrom, if_neg he, ih m (k + 1) (by simpa using hm) hf]
          omega
  have := gen fs n 0 h h0
  rw [Nat.zero_add] at this
  exact this

/-- The codes as far as they are tied. -/
structure Tied (fs gs : List Fun) (us : List Use) : Prop where
  len : gs.length = fs.length
  same : ∀ (i : Nat) (f g : Fun), fs[i]? = some f → gs[i]? = some g → g.name = f.name ∧ g.args = f.args ∧ g.locals = f.locals ∧ g.code.length = f.code.length
  codes : ∀ (i k : Nat) (f g : Fun) (x y : Int × Int), fs[i]? = some f → gs[i]? = some g → f.code[k]? = some x → g.code[k]? = some y → y = x ∨ (x.1 = 16 ∧ y.1 = 16 ∧ ∃ u ∈ us, u.i = (i : Int) ∧ u.k = (k : Int))
  uses : ∀ u ∈ us, ∃ (i k : Nat) (f : Fun) (n : Nat), u.i = (i : Int) ∧ u.k = (k : Int) ∧ fs[i]? = some f ∧ f.code[k]? = some (16, (n : Int)) ∧ n < fs.length ∧ u.name = bs (nameAt fs (n : Int))

theorem Tied.all {fs gs : List Fun} (h : Tied fs gs []) : gs = fs := by
  apply List.ext_getElem? 
  intro i
  rcases Nat.lt_or_ge i fs.length with hi | hi
  · have hi' : i < gs.length := by rw [h.len]; exact hi
    rw [List.getElem?_eq_getElem hi, List.getElem?_eq_getElem hi']
    congr 1
    have hf := List.getElem?_eq_getElem hi
    have hg := List.getElem?_eq_getElem hi'
    obtain ⟨s1, s2, s3, s4⟩ := h.same i _ _ hf hg
    have hc : gs[i].code = fs[i].code := by
      apply List.ext_getElem?
      intro k
      rcases Nat.lt_or_ge k fs[i].code.length with hk | hk
      · have hk' : k < gs[i].code.length := by rw [s4]; exact hk
        rw [List.getElem?_eq_getElem hk, List.getElem?_eq_getElem hk']
        rcases h.codes i k _ _ _ _ hf hg (List.getElem?_eq_getElem hk) (List.getElem?_eq_getElem hk') with e | ⟨_, _, u, hu, _⟩
        · rw [e]
        · cases hu
      · rw [List.getElem?_eq_none hk, List.getElem?_eq_none (by rw [s4]; exact hk)]
    generalize gs[i] = g at *
    generalize fs[i] = f at *
    obtain ⟨a1, a2, a3, a4⟩ := g
    obtain ⟨b1, b2, b3, b4⟩ := f
    simp only at *
    subst s1 s2 s3 hc
    rfl
  · rw [List.getElem?_eq_none hi, List.getElem?_eq_none (by rw [h.len]; exact hi)]

theorem findFrom_same (nm : ByteArray) : ∀ (fs gs : List Fun) (k : Nat), gs.length = fs.length → (∀ (i : Nat) (f g : Fun), fs[i]? = some f → gs[i]? = some g → g.name = f.name) → findFrom nm gs k = findFrom nm fs k
  | [], [], _, _, _ => rfl
  | f :: r, g :: q, k, hl, h => by
    have h0 := h 0 f g rfl rfl
    rw [findFrom, findFrom, h0, findFrom_same nm r q (k + 1) (by simpa using hl) (fun i a b ha hb => h (i + 1) a b ha hb)]
  | [], _ :: _, _, hl, _ => by simp at hl
  | _ :: _, [], _, hl, _ => by simp at hl

theorem tie_all (fs : List Fun) (hO : ∀ k f, fs[k]? = some f → findF f.name (fs.take k) < 0) : ∀ (us : List Use) (st : St), Tied fs st.funcs us → tieL us st = .ok ⟨st.rest, st.line, fs, st.main, st.args, st.fuel, st.tasks, st.uses⟩
  | [], st, h => by
    have := h.all
    rw [tieL, ← this]
  | u :: us, st, h => by
    obtain ⟨i, k, f, n, hui, huk, hf, hx, hn, hnm⟩ := h.uses u (by simp)
    obtain ⟨fn, hfn⟩ : ∃ fn, fs[n]? = some fn := ⟨_, List.getElem?_eq_getElem hn⟩
    have hname : u.name = fn.name := by rw [hnm, nameAt, Int.toNat_natCast, hfn]; exact bs_data _
    have hfind : findF u.name st.funcs = (n : Int) := by
      rw [hname]
      rw [← find_once fs hO hfn]
      exact findFrom_same _ _ _ _ h.len (fun (i : Nat) (f g : Fun) hf hg => (h.same i f g hf hg).1)
    rw [tieL, hfind, if_neg (by omega), hui, huk, if_neg (by omega)]
    have key : Tied fs (st.setN i k (n : Int)).funcs us := by
      have hget : ∀ j, (st.setN i k (n : Int)).funcs[j]? = if i = j then (st.funcs[j]?).map (fun f => f.setN k n) else st.funcs[j]? := fun j => by
        simp only [St.setN, List.getElem?_modify]
        by_cases e : i = j
        · rw [if_pos e]; cases st.funcs[j]? <;> simp [e]
        · rw [if_neg e]; cases st.funcs[j]? <;> simp [e]
      refine ⟨by simpa [St.setN] using h.len, fun j a b ha hb => ?_, fun j q a b x y ha hb hx' hy => ?_, fun v hv => h.uses v (by simp [hv])⟩
      · rw [hget] at hb
        by_cases e : i = j
        · rw [if_pos e] at hb
          obtain ⟨b', hb', rfl⟩ := Option.map_eq_some_iff.1 hb
          obtain ⟨s1, s2, s3, s4⟩ := h.same j a b' ha hb'
          exact ⟨s1, s2, s3, by simpa [Fun.setN] using s4⟩
        · rw [if_neg e] at hb
          exact h.same j a b ha hb
      · rw [hget] at hb
        by_cases e : i = j
        · rw [if_pos e] at hb
          obtain ⟨b', hb', rfl⟩ := Option.map_eq_some_iff.1 hb
          simp only [Fun.setN, List.getElem?_modify] at hy
          obtain ⟨y', hy', rfl⟩ := Option.map_eq_some_iff.1 hy
          have hcs := h.codes j q a b' x y' ha hb' hx' hy'
          by_cases eq : k = q
          · subst e eq
            rw [hf] at ha
            injection ha with ha
            subst ha
            rw [hx] at hx'
            injection hx' with hx'
            subst hx'
            left
            simp only [if_true]
            rcases hcs with e | ⟨_, e, _⟩
            · rw [e]
            · rw [e]
          · simp only [if_neg eq]
            rcases hcs with e | ⟨e1, e2, v, hv, hvi, hvk⟩
            · exact .inl e
            · refine .inr ⟨e1, e2, v, ?_, hvi, hvk⟩
              rcases List.mem_cons.1 hv with rfl | hv
              · exfalso
                rw [huk] at hvk
                omega
              · exact hv
        · rw [if_neg e] at hb
          rcases h.codes j q a b x y ha hb hx' hy with e' | ⟨e1, e2, v, hv, hvi, hvk⟩
          · exact .inl e'
          · refine .inr ⟨e1, e2, v, ?_, hvi, hvk⟩
            rcases List.mem_cons.1 hv with rfl | hv
            · exfalso
              rw [hui] at hvi
              omega
            · exact hv
    have ih := tie_all fs hO us (st.setN i k (n : Int)) key
    simp only [Int.toNat_natCast]
    rw [ih]
    rfl

theorem trip (fs : List Fun) (main : Int) (args : List Int) (fuel tasks : Int) (hP : plainL fs main args.length = true) (hI : JobIn fs args fuel tasks) :
    ∃ ln us, readL (bs (printT fs main args fuel tasks)) = .ok ⟨bs [], ln, fs, main, args, fuel, tasks, us⟩ := by
  unfold plainL at hP
  simp only [Bool.and_eq_true, decide_eq_true_eq, List.all_eq_true, List.mem_range] at hP
  obtain ⟨⟨⟨h32, h8⟩, hm⟩, hA⟩ := hP
  have hO : ∀ k f, fs[k]? = some f → isNameL f.name.data.toList = true ∧ findF f.name (fs.take k) < 0 ∧ plainCode f.code fs.length = true := by
    intro k f hf
    have := hA k (List.getElem?_eq_some_iff.1 hf).1
    unfold okAt at this
    rw [hf] at this
    simp only [Bool.and_eq_true, decide_eq_true_eq] at this
    exact ⟨this.1.1, this.1.2, this.2⟩
  have hmr : 0 ≤ main ∧ main < (fs.length : Int) := by
    unfold isFuncL at hm
    simpa using hm
  obtain ⟨m, rfl⟩ : ∃ m : Nat, main = (m : Int) := ⟨main.toNat, by omega⟩
  obtain ⟨fm, hfm⟩ : ∃ f, fs[m]? = some f := ⟨_, List.getElem?_eq_getElem (show m < fs.length by omega)⟩
  have hnm : nameAt fs (m : Int) = fm.name.data.toList := by simp [nameAt, hfm]
  have hnn := (hO m fm hfm).1
  obtain ⟨F, hF⟩ : ∃ F, F = fs.flatMap (fun f => funcT f fs) ++ [101, 110, 100, 10] := ⟨_, rfl⟩
  have T : printT fs (m : Int) args fuel tasks = ([106, 111, 98] ++ numsT [fuel, tasks]) ++ 10 :: (([109, 97, 105, 110] ++ 32 :: (fm.name.data.toList ++ numsT args)) ++ 10 :: F) := by
    rw [hF]
    simp [printT, headT, mainT, hfm]
  have hd := head_eval ([106, 111, 98] ++ numsT [fuel, tasks]) ([109, 97, 105, 110] ++ 32 :: (fm.name.data.toList ++ numsT args)) F (by simp [numsT_no10]) (by simp [numsT_no10, (name_no hnn).2]) (x := fuel) (y := tasks) (nm := fm.name) (vs := args)
    (by
      rw [words_nums _ [106, 111, 98] (by decide)]
      have h1 := numsL_itoa hI.two
      have h2 : isWord (bs [106, 111, 98]) [106, 111, 98] = true := by kernel_rfl
      simp only [jobL, List.tail_cons, List.headD_cons, h1, h2, if_true])
    (by
      rw [words_more [109, 97, 105, 110] _ (by decide), words_nums _ _ (name_no hnn).1, bs_data]
      have h1 := numsL_itoa hI.args
      have h2 : isWord (bs [109, 97, 105, 110]) [109, 97, 105, 110] = true := by kernel_rfl
      simp only [mainL, h1, h2, hnn, Bool.and_self, if_true]
      rw [if_pos h8])
  have B := funcs_body fs args fuel tasks hI h32 hO 0 args fs [] ((bs F).size + 1) 2 [⟨fm.name, 2, -1, 0⟩] rfl (by rw [← hF, bs_size]; exact Nat.le_refl _)
  rw [← hF] at B
  simp only [List.map_nil, List.length_nil] at B
  unfold readL
  rw [T, hd]
  simp only
  rw [B]
  simp only [List.cons_append, List.nil_append]
  have hfind : findF fm.name (fs.map zeroF) = (m : Int) := by
    rw [← find_once fs (fun k f hf => (hO k f hf).2.1) hfm]
    exact findFrom_zero _ _ _
  rw [tieL]
  simp only [hfind]
  rw [if_neg (by omega), if_pos (by decide)]
  have hT : Tied fs (fs.map zeroF) (usesA fs 2 ((0 : Nat) : Int) fs) := by
    refine ⟨by simp, fun i f g hf hg => ?_, fun i k f g x y hf hg hx hy => ?_, fun u hu => ?_⟩
    · rw [List.getElem?_map, hf] at hg
      injection hg with hg
      subst hg
      exact ⟨rfl, rfl, rfl, by simp [zeroF]⟩
    · rw [List.getElem?_map, hf] at hg
      injection hg with hg
      subst hg
      simp only [zeroF, List.getElem?_map, hx] at hy
      injection hy with hy
      subst hy
      by_cases h16 : x.1 = 16
      · refine .inr ⟨h16, by simp [zeroN, h16], ?_⟩
        have hx' : f.code[k]? = some (16, x.2) := by rw [hx, ← h16]
        obtain ⟨u, hu, _, h4, h5⟩ := usesA_has fs fs 2 0 i k f x.2 hf hx'
        exact ⟨u, hu, by rw [h4]; simp, h5⟩
      · left
        simp [zeroN, h16]
    · obtain ⟨j, k, f, n, h1, h2, h3, h4, h5⟩ := usesA_mem fs u fs 2 0 hu
      have hpc := (hO j f h1).2.2
      unfold plainCode at hpc
      simp only [Bool.and_eq_true, decide_eq_true_eq, List.all_eq_true] at hpc
      have hp := hpc.2 _ (List.mem_of_getElem? h2)
      unfold plainIns at hp
      have hq : (kindOf 16).word.toList.isEmpty = false := by kernel_rfl
      simp only [hq, Bool.false_eq_true, if_false, if_true] at hp
      have hn : 0 ≤ n ∧ n < (fs.length : Int) := by
        unfold isFuncL at hp
        simpa using hp
      obtain ⟨q, rfl⟩ : ∃ q : Nat, n = (q : Int) := ⟨n.toNat, by omega⟩
      exact ⟨j, k, f, q, by rw [h4]; simp, h5, h1, h2, by omega, h3⟩
  have R := tie_all fs (fun k f hf => (hO k f hf).2.1) (usesA fs 2 ((0 : Nat) : Int) fs) ⟨bs [], 2 + (linesA fs : Nat) + 1, fs.map zeroF, (m : Int), args, fuel, tasks, ⟨fm.name, 2, -1, 0⟩ :: usesA fs 2 ((0 : Nat) : Int) fs⟩ hT
  rw [R]
  exact ⟨_, _, rfl⟩
end Go.Proofs.YtfnloomcianbiaaGreatDoor
