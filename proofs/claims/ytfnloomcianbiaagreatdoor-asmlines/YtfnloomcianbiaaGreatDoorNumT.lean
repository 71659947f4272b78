/- AsmNumbers' text, read. -/
import Derived.Test.YtfnloomcianbiaaGreatDoorEval
import Derived.Test.YtfnloomcianbiaaGreatDoorPrint
namespace Go.Proofs.YtfnloomcianbiaaGreatDoor
open Go.RowKit Go.ChangeShapes Go.WideShapes Go.ChangeAt Go.Deep

def numF (a b c d : Int) : List Fun := [⟨⟨#[102]⟩, a, b, [(1, c), (5, d), (14, a)]⟩]

theorem numsL_itoa {ns : List Int} (h : In64 ns) : numsL (ns.map fun n => bs (Lib.itoa n)) = some ns := by
  have e : ∀ n ∈ ns, num (bs (Lib.itoa n)) = some n := fun n hn => num_itoa n (h n hn)
  unfold numsL
  rw [if_pos]
  · congr 1
    clear h
    induction ns with
    | nil => rfl
    | cons n r ih =>
      rw [List.map_cons, List.filterMap_cons, e n (by simp)]
      simp only
      rw [ih (fun m hm => e m (by simp [hm]))]
  · intro s hs
    obtain ⟨n, hn, rfl⟩ := List.mem_map.1 hs
    rw [e n hn]; rfl

theorem itoa_no {n : Int} {c : UInt8} (h : c.toNat = 32 ∨ c.toNat = 10) : c ∉ Lib.itoa n := fun hc => by
  have := itoa_bytes n c hc
  omega
theorem no32 (n : Int) : (32 : UInt8) ∉ Lib.itoa n := itoa_no (.inl rfl)
theorem no10 (n : Int) : (10 : UInt8) ∉ Lib.itoa n := itoa_no (.inr rfl)

theorem insN {st : St} {f : Fun} {wd : List UInt8} {op : Nat} {n : Int} (hf : st.funcs = [f]) (hc : f.code.length < 256) (ho : opOf (bs wd) = some op) (h16 : op ≠ 16) (hh : (kindOf (op : Int)).hasN = true) (hn : In64 [n]) :
    insStep st [bs [], bs [], bs wd, bs (Lib.itoa n)] = some (st.add [] f (((op : Int), n), bs (Lib.itoa n))) := by
  have e0 : (bs []).toList.isEmpty = true := by kernel_rfl
  have e1 : insL (bs wd) [bs (Lib.itoa n)] = some ((op : Int), n) := by
    unfold insL
    rw [ho]
    simp only
    rw [if_neg h16, hh, if_neg (by decide)]
    have := numsL_itoa hn
    simp only [List.map_cons, List.map_nil] at this
    rw [this]; rfl
  have e2 : insLineL [bs [], bs [], bs wd, bs (Lib.itoa n)] = some (((op : Int), n), bs (Lib.itoa n)) := by
    simp only [insLineL, e0, e1, Bool.and_self, if_true]
    rfl
  unfold insStep
  rw [e2, hf]
  simp only [List.getLast?_singleton, List.dropLast_singleton]
  rw [if_neg (by omega)]

theorem words_ins (wd : List UInt8) (n : Int) (h : (32 : UInt8) ∉ wd) : wordsOf (bs (32 :: 32 :: (wd ++ 32 :: Lib.itoa n))) = [bs [], bs [], bs wd, bs (Lib.itoa n)] := by
  have a := words_more [] (32 :: (wd ++ 32 :: Lib.itoa n)) (by simp)
  have b := words_more [] (wd ++ 32 :: Lib.itoa n) (by simp)
  simp only [List.nil_append] at a b
  rw [a, b, words_more wd _ h, words_one _ (no32 n)]
theorem not_func (x y z : ByteArray) (fs : List Fun) : funcL [bs [], x, y, z] fs = none := by
  have e : isWord (bs []) [102, 117, 110, 99] = false := by kernel_rfl
  simp only [funcL, e, Bool.false_and, Bool.false_eq_true, if_false]

theorem add_one {f : Fun} {st : St} {x : (Int × Int) × ByteArray} (h : x.1.1 ≠ 16) : st.add [] f x = { st with funcs := [{ f with code := f.code ++ [x.1] }] } := by
  unfold St.add
  rw [if_neg h]; rfl

theorem step_n (n : Nat) (ln : Int) (f : Fun) (mn : Int) (vs : List Int) (fu tk : Int) (us : List Use) (wd r : List UInt8) (op : Nat) (x : Int) (h32 : (32 : UInt8) ∉ wd) (h10 : (10 : UInt8) ∉ wd)
    (hc : f.code.length < 256) (ho : opOf (bs wd) = some op) (h16 : op ≠ 16) (hh : (kindOf (op : Int)).hasN = true) (hx : In64 [x]) :
    bodyL (n + 1) ⟨bs ((32 :: 32 :: (wd ++ 32 :: Lib.itoa x)) ++ 10 :: r), ln, [f], mn, vs, fu, tk, us⟩ = bodyL n ⟨bs r, ln + 1, [⟨f.name, f.args, f.locals, f.code ++ [((op : Int), x)]⟩], mn, vs, fu, tk, us⟩ := by
  have w := words_ins wd x h32
  have hl : (10 : UInt8) ∉ (32 :: 32 :: (wd ++ 32 :: Lib.itoa x)) := by simp [no10, h10]
  have hi : insStep ⟨bs r, ln + 1, [f], mn, vs, fu, tk, us⟩ (wordsOf (bs (32 :: 32 :: (wd ++ 32 :: Lib.itoa x)))) = some ⟨bs r, ln + 1, [⟨f.name, f.args, f.locals, f.code ++ [((op : Int), x)]⟩], mn, vs, fu, tk, us⟩ := by
    rw [w, insN (st := ⟨bs r, ln + 1, [f], mn, vs, fu, tk, us⟩) (f := f) rfl hc ho h16 hh hx, add_one (by show (op : Int) ≠ 16; omega)]
  exact body_ins n ⟨bs ((32 :: 32 :: (wd ++ 32 :: Lib.itoa x)) ++ 10 :: r), ln, [f], mn, vs, fu, tk, us⟩ _ r hl rfl (by rw [w]; rfl) (by rw [w]; exact not_func _ _ _ _) hi

theorem numbers_read (a b c d : Int) (ha : In64 [a]) (hb : In64 [b]) (hc : In64 [c]) (hd : In64 [d]) : readL (bs (printT (numF a b c d) 0 [b, c] d a)) = .ok ⟨bs [], 7, numF a b c d, 0, [b, c], d, a, [⟨bs [102], 2, -1, 0⟩]⟩ := by
  have two : ∀ {x y : Int}, In64 [x] → In64 [y] → In64 [x, y] := fun {x y} h1 h2 z hz => by
    simp only [List.mem_cons, List.mem_nil_iff, or_false] at hz
    rcases hz with rfl | rfl
    · exact h1 z (by simp)
    · exact h2 z (by simp)
  have T : printT (numF a b c d) 0 [b, c] d a = ([106, 111, 98] ++ 32 :: (Lib.itoa d ++ 32 :: Lib.itoa a)) ++ 10 :: (([109, 97, 105, 110] ++ 32 :: ([102] ++ 32 :: (Lib.itoa b ++ 32 :: Lib.itoa c))) ++ 10 :: (([102, 117, 110, 99] ++ 32 :: ([102] ++ 32 :: (Lib.itoa a ++ 32 :: Lib.itoa b))) ++ 10 :: ((32 :: 32 :: ([112, 117, 115, 104] ++ 32 :: Lib.itoa c)) ++ 10 :: ((32 :: 32 :: ([108, 111, 97, 100] ++ 32 :: Lib.itoa d)) ++ 10 :: ((32 :: 32 :: ([106, 117, 109, 112] ++ 32 :: Lib.itoa a)) ++ 10 :: [101, 110, 100, 10]))))) := by
    have k1 : kindOf 1 = ⟨⟨#[112, 117, 115, 104]⟩, true, 0, 1⟩ := by kernel_rfl
    have k5 : kindOf 5 = ⟨⟨#[108, 111, 97, 100]⟩, true, 0, 1⟩ := by kernel_rfl
    have k14 : kindOf 14 = ⟨⟨#[106, 117, 109, 112]⟩, true, 0, 0⟩ := by kernel_rfl
    simp [printT, headT, mainT, funcT, codeT, insText, behindT, numsT, numF, k1, k5, k14]
  obtain ⟨R3, hR3⟩ : ∃ R : List UInt8, R = ((32 :: 32 :: ([112, 117, 115, 104] ++ 32 :: Lib.itoa c)) ++ 10 :: ((32 :: 32 :: ([108, 111, 97, 100] ++ 32 :: Lib.itoa d)) ++ 10 :: ((32 :: 32 :: ([106, 117, 109, 112] ++ 32 :: Lib.itoa a)) ++ 10 :: [101, 110, 100, 10]))) := ⟨_, rfl⟩
  rw [← hR3] at T
  have n32 := no32
  have n10 := no10
  have hd0 := head_eval ([106, 111, 98] ++ 32 :: (Lib.itoa d ++ 32 :: Lib.itoa a)) ([109, 97, 105, 110] ++ 32 :: ([102] ++ 32 :: (Lib.itoa b ++ 32 :: Lib.itoa c))) (([102, 117, 110, 99] ++ 32 :: ([102] ++ 32 :: (Lib.itoa a ++ 32 :: Lib.itoa b))) ++ 10 :: R3) (by simp [n10]) (by simp [n10]) (x := d) (y := a) (nm := bs [102]) (vs := [b, c])
    (by
      rw [words_more [106, 111, 98] _ (by decide), words_more _ _ (n32 d), words_one _ (n32 a)]
      have h1 := numsL_itoa (two hd ha)
      have h2 : isWord (bs [106, 111, 98]) [106, 111, 98] = true := by kernel_rfl
      simp only [List.map_cons, List.map_nil] at h1
      simp only [jobL, List.tail_cons, List.headD_cons, h1, h2, if_true])
    (by
      rw [words_more [109, 97, 105, 110] _ (by decide), words_more [102] _ (by decide), words_more _ _ (n32 b), words_one _ (n32 c)]
      have h1 := numsL_itoa (two hb hc)
      have h2 : (isWord (bs [109, 97, 105, 110]) [109, 97, 105, 110] && isNameL (bs [102]).data.toList) = true := by kernel_rfl
      simp only [List.map_cons, List.map_nil] at h1
      simp only [mainL, h1, h2, if_true]
      rfl)
  unfold readL
  rw [T, hd0]
  simp only
  obtain ⟨n, hn⟩ : ∃ n, (bs (([102, 117, 110, 99] ++ 32 :: ([102] ++ 32 :: (Lib.itoa a ++ 32 :: Lib.itoa b))) ++ 10 :: R3)).size + 1 = n + 1 + 1 + 1 + 1 + 1 := by
    refine ⟨(bs (([102, 117, 110, 99] ++ 32 :: ([102] ++ 32 :: (Lib.itoa a ++ 32 :: Lib.itoa b))) ++ 10 :: R3)).size - 4, ?_⟩
    have : 4 ≤ (bs (([102, 117, 110, 99] ++ 32 :: ([102] ++ 32 :: (Lib.itoa a ++ 32 :: Lib.itoa b))) ++ 10 :: R3)).size := by rw [bs_size]; simp only [List.length_append, List.length_cons]; omega
    omega
  rw [hn]
  have w3 : wordsOf (bs ([102, 117, 110, 99] ++ 32 :: ([102] ++ 32 :: (Lib.itoa a ++ 32 :: Lib.itoa b)))) = [bs [102, 117, 110, 99], bs [102], bs (Lib.itoa a), bs (Lib.itoa b)] := by
    rw [words_more [102, 117, 110, 99] _ (by decide), words_more [102] _ (by decide), words_more _ _ (n32 a), words_one _ (n32 b)]
  have b3 : bodyL (n + 1 + 1 + 1 + 1 + 1) ⟨bs (([102, 117, 110, 99] ++ 32 :: ([102] ++ 32 :: (Lib.itoa a ++ 32 :: Lib.itoa b))) ++ 10 :: R3), 2, [], 0, [b, c], d, a, [⟨bs [102], 2, -1, 0⟩]⟩ = bodyL (n + 1 + 1 + 1 + 1) ⟨bs R3, 2 + 1, [⟨bs [102], a, b, []⟩], 0, [b, c], d, a, [⟨bs [102], 2, -1, 0⟩]⟩ :=
    body_func (n + 1 + 1 + 1 + 1) ⟨bs (([102, 117, 110, 99] ++ 32 :: ([102] ++ 32 :: (Lib.itoa a ++ 32 :: Lib.itoa b))) ++ 10 :: R3), 2, [], 0, [b, c], d, a, [⟨bs [102], 2, -1, 0⟩]⟩ _ R3 (by simp [n10]) rfl (by rw [w3]; rfl) (f := ⟨bs [102], a, b, []⟩) (by
    rw [w3]
    have h1 := numsL_itoa (two ha hb)
    have h2 : (isWord (bs [102, 117, 110, 99]) [102, 117, 110, 99] && isNameL (bs [102]).data.toList) = true := by kernel_rfl
    have h3 : funcOk (bs [102]) [] = true := by kernel_rfl
    simp only [List.map_cons, List.map_nil] at h1
    simp only [funcL, h1, h2, h3, if_true])
  rw [b3, hR3]
  have o1 : opOf (bs [112, 117, 115, 104]) = some 1 := by kernel_rfl
  have o5 : opOf (bs [108, 111, 97, 100]) = some 5 := by kernel_rfl
  have o14 : opOf (bs [106, 117, 109, 112]) = some 14 := by kernel_rfl
  have q1 : (kindOf ((1 : Nat) : Int)).hasN = true := by kernel_rfl
  have q5 : (kindOf ((5 : Nat) : Int)).hasN = true := by kernel_rfl
  have q14 : (kindOf ((14 : Nat) : Int)).hasN = true := by kernel_rfl
  rw [step_n _ _ _ _ _ _ _ _ [112, 117, 115, 104] _ 1 c (by decide) (by decide) (by simp) o1 (by decide) q1 hc,
    step_n _ _ _ _ _ _ _ _ [108, 111, 97, 100] _ 5 d (by decide) (by decide) (by simp) o5 (by decide) q5 hd,
    step_n _ _ _ _ _ _ _ _ [106, 117, 109, 112] _ 14 a (by decide) (by decide) (by simp) o14 (by decide) q14 ha,
    body_end _ _ rfl]
  have this : ((bs [102]).toList == (bs [102]).toList) = true := by kernel_rfl
  simp only [tieL, findF, findFrom, this, if_true, List.nil_append, List.cons_append]
  rw [if_neg (by decide), if_pos (by decide)]
  rfl
end Go.Proofs.YtfnloomcianbiaaGreatDoor
