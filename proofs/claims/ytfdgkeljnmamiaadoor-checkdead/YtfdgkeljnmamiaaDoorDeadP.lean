/- What is never come to, plain. -/
import Derived.Test.YtfdgkeljnmamiaaDoorMeetW
namespace Go.Proofs.YtfdgkeljnmamiaaDoor
open Go.RowKit Go.ChangeShapes Go.WideShapes Go.ChangeAt Go.Deep

def deadC (l : List (Int × Int)) : List (Int × Int) := (1, 5) :: (18, 0) :: l
def deadD (l : List (Int × Int)) : List Int := 0 :: 1 :: List.replicate l.length (-1)

theorem leastFrom_end (d : List Int) (g : List Bool) : ∀ (m k : Nat), k ≤ d.length → d.length ≤ m + k → (∀ i, k ≤ i → i < d.length → passed d g i = true) → leastFrom d g m k = d.length
  | 0, k, h1, h2, _ => by
    have : leastFrom d g 0 k = k := rfl
    rw [this]; omega
  | m + 1, k, h1, h2, h => by
    rcases Nat.lt_or_ge k d.length with hk | hk
    · rw [leastFrom_more hk (h k (Nat.le_refl _) hk)]
      exact leastFrom_end d g m (k + 1) (by omega) (by omega) (fun i hi => h i (by omega))
    · rw [leastFrom_stop (.inl (by omega))]; omega

theorem dead_depths (l : List (Int × Int)) : depthsL [0] (deadC l) = .ok (deadD l) := by
  have hn : (deadC l).length = l.length + 2 := rfl
  have d0 : (List.replicate (l.length + 2) (-1 : Int)).set 0 0 = 0 :: -1 :: List.replicate l.length (-1) := by simp [List.replicate_succ]
  have g0 : List.replicate (l.length + 2) false = false :: false :: List.replicate l.length false := by simp [List.replicate_succ]
  have b1 : behL [0] (1, 5) 0 = some 1 := by decide +kernel
  have b2 : behL [0] (18, 0) 1 = some 0 := by decide +kernel
  have hh : hasB ((l.length + 2 : Nat) : Int) 1 = true := by simp [hasB, inB]; omega
  unfold depthsL
  rw [hn, d0, g0]
  have s1 : leastFrom (0 :: -1 :: List.replicate l.length (-1)) (false :: false :: List.replicate l.length false) (0 :: -1 :: List.replicate l.length (-1 : Int)).length 0 = 0 := leastFrom_stop (.inr rfl)
  have o1 : overL [0] (deadC l) (0 :: -1 :: List.replicate l.length (-1)) 0 0 = .ok (deadD l, 0) := by
    unfold overL
    rw [show (deadC l).getD 0 (0, 0) = (1, 5) from rfl, show (0 :: -1 :: List.replicate l.length (-1 : Int)).getD 0 0 = 0 from rfl, b1]
    show nextGo (l.length + 2) 1 [1] _ 0 = _
    rw [nextGo, if_pos hh]
    rfl
  have s2 : leastFrom (deadD l) (true :: false :: List.replicate l.length false) (deadD l).length 0 = 1 := by
    have : (deadD l).length = l.length + 1 + 1 := by simp [deadD]
    rw [this, leastFrom_more (by omega) rfl, leastFrom_stop (.inr rfl)]
  have o2 : overL [0] (deadC l) (deadD l) 1 1 = .ok (deadD l, 1) := by
    unfold overL
    rw [show (deadC l).getD 1 (0, 0) = (18, 0) from rfl, show (deadD l).getD 1 0 = 1 from rfl, b2]
    rfl
  have s3 : leastFrom (deadD l) (true :: true :: List.replicate l.length false) (deadD l).length 1 = (deadD l).length := by
    refine leastFrom_end _ _ _ _ (by simp [deadD]) (by omega) (fun i hi hlt => ?_)
    match i, hi, hlt with
    | 1, _, _ => rfl
    | i + 2, _, hlt =>
      have hi2 : i < l.length := by simp [deadD] at hlt; omega
      simp [passed, deadD, hi2]
  rw [walkL, s1, if_pos (by simp), o1]
  show walkL [0] (deadC l) (l.length + 2) (deadD l) (true :: false :: List.replicate l.length false) 0 = _
  rw [walkL, s2, if_pos (by simp [deadD]), o2]
  show walkL [0] (deadC l) (l.length + 1) (deadD l) (true :: true :: List.replicate l.length false) 1 = _
  rw [walkL, s3, if_neg (by omega)]

theorem dead_head (l : List (Int × Int)) (hl : l.length ≤ 100) : headErr (oneF (deadC l)) 0 ⟨fnm, 0, 0, deadC l⟩ = 0 := by
  have h1 : isNameL fnm.data.toList = true := by decide +kernel
  have h2 : inB ((deadC l).length : Int) 1 256 = true := by
    have e : (deadC l).length = l.length + 2 := rfl
    rw [e]
    unfold inB
    simp only [Bool.and_eq_true, decide_eq_true_eq]
    omega
  unfold headErr
  simp only [h1, h2]
  simp [findF, findFrom, inB]

theorem dead_job (l : List (Int × Int)) : jobErr (oneF (deadC l)) 0 0 100 50 = 0 := by
  simp [jobErr, oneF, inB, hasB]

theorem dead_i1 (n : Nat) : insErr 0 n 1 1 5 = 0 := by
  have a : (kindOf 1).word.toList.isEmpty = false := by decide +kernel
  have b : (kindOf 1).hasN = true := by decide +kernel
  unfold insErr
  simp [a, b]
theorem dead_i2 (n : Nat) : insErr 0 n 1 18 0 = 0 := by
  have a : (kindOf 18).word.toList.isEmpty = false := by decide +kernel
  unfold insErr
  simp [a]
theorem dead_ok (l : List (Int × Int)) (hl : l.length ≤ 100) (h : ∀ x ∈ l, insErr 0 (l.length + 2) 1 x.1 x.2 = 0) : oneL (deadC l) = (0, 0, 0) ∧ oneD (deadC l) = deadD l := by
  have hi : insFrom 0 (l.length + 2) 1 0 (deadC l) = (0, 0) := insFrom_ok _ 0 (fun x hx => by
    simp only [deadC, List.mem_cons] at hx
    rcases hx with rfl | rfl | hx
    · exact dead_i1 _
    · exact dead_i2 _
    · exact h x hx)
  have hf : funcErr (oneF (deadC l)) 0 ⟨fnm, 0, 0, deadC l⟩ = (0, 0) := by
    unfold funcErr
    rw [dead_head l hl]
    simp only [ne_eq, not_true_eq_false, if_false]
    rw [show (oneF (deadC l)).length = 1 from rfl, show (deadC l).length = l.length + 2 from rfl, hi]
    simp only [not_true_eq_false, if_false]
    rw [show (oneF (deadC l)).map Fun.args = [0] from rfl, dead_depths l]
  have hL : oneL (deadC l) = (0, 0, 0) := by
    unfold oneL checkL
    rw [if_pos (dead_job l)]
    exact checkFrom_ok _ 0 (fun j f hj => by
      have hj0 : j = 0 := by
        match j, hj with
        | 0, _ => rfl
        | j + 1, hj => simp [oneF] at hj
      subst hj0
      simp [oneF] at hj
      subst hj
      rw [hf])
  refine ⟨hL, ?_⟩
  obtain ⟨_, d, hd, hD⟩ := deps_at (fs := oneF (deadC l)) (main := 0) (na := 0) (fuel := 100) (tasks := 50) (k := 0) (f := ⟨fnm, 0, 0, deadC l⟩) (by show (oneL (deadC l)).2.2 = 0; rw [hL]) rfl
  have hD2 : oneD (deadC l) = d := hD
  rw [hD2]
  rw [show (oneF (deadC l)).map Fun.args = [0] from rfl, dead_depths l] at hd
  exact (Except.ok.inj hd).symm

theorem dead_no (l : List (Int × Int)) (hl : l.length ≤ 100) (k : Nat) (x : Int × Int) (hx : l[k]? = some x) (h : ∀ y ∈ l.take k, insErr 0 (l.length + 2) 1 y.1 y.2 = 0) (he : insErr 0 (l.length + 2) 1 x.1 x.2 ≠ 0) : oneL (deadC l) = (0, ((k + 2 : Nat) : Int), insErr 0 (l.length + 2) 1 x.1 x.2) ∧ oneD (deadC l) = [] := by
  have hi := insFrom_at (lo := 0) (nc := l.length + 2) (nf := 1) (deadC l) 0 (k + 2) x (by simpa [deadC] using hx) (fun y hy => by
    simp only [deadC, List.take_succ_cons, List.mem_cons] at hy
    rcases hy with rfl | rfl | hy
    · exact dead_i1 _
    · exact dead_i2 _
    · exact h y hy) he
  have hf : funcErr (oneF (deadC l)) 0 ⟨fnm, 0, 0, deadC l⟩ = (((k + 2 : Nat) : Int), insErr 0 (l.length + 2) 1 x.1 x.2) := by
    unfold funcErr
    rw [dead_head l hl]
    simp only [ne_eq, not_true_eq_false, if_false]
    rw [show (oneF (deadC l)).length = 1 from rfl, show (deadC l).length = l.length + 2 from rfl, hi]
    rw [if_pos he, Nat.zero_add]
  have hL : oneL (deadC l) = (0, ((k + 2 : Nat) : Int), insErr 0 (l.length + 2) 1 x.1 x.2) := by
    unfold oneL checkL
    rw [if_pos (dead_job l)]
    have := checkFrom_at (fs := oneF (deadC l)) (oneF (deadC l)) 0 0 ⟨fnm, 0, 0, deadC l⟩ rfl (fun i g hi => by omega) (by rw [Nat.zero_add, hf]; exact he)
    rw [this, Nat.zero_add, hf]
    rfl
  refine ⟨hL, ?_⟩
  show depsOf (oneF (deadC l)) 0 0 100 50 0 = []
  unfold depsOf
  rw [if_neg]
  rintro ⟨h0, _⟩
  have h0' : (oneL (deadC l)).2.2 = 0 := h0
  rw [hL] at h0'
  exact he h0'
end Go.Proofs.YtfdgkeljnmamiaaDoor
