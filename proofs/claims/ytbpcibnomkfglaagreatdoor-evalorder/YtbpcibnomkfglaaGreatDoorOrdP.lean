/- EvalOrder: its check and its evaluation, plain. -/
import Derived.Test.YtbpcibnomkfglaaGreatDoorStr
namespace Go.Proofs.YtbpcibnomkfglaaGreatDoor
open Go.RowKit Go.ChangeShapes Go.WideShapes Go.ChangeAt Go.Deep

def ordG : Nat → List (Int × Int)
  | 0 => []
  | n + 1 => ordG n ++ [(1, ((10 * n : Nat) : Int)), (16, 1), (2, 0)]
def ordH : List Nat → List (Int × Int)
  | [] => []
  | k :: r => [(1, (k : Int)), (17, 0), (7, 0)] ++ ordH r
def ordC (K : Nat) (ks : List Nat) : List (Int × Int) := ordG K ++ ([(1, 0)] ++ (ordH ks ++ [(18, 0)]))
def ordGf : Fun := ⟨gnm, 1, 1, [(5, 0), (1, 1), (7, 0), (18, 0)]⟩
def ordF (K : Nat) (ks : List Nat) : List Fun := [⟨fnm, 0, 0, ordC K ks⟩, ordGf]
theorem ordG_len : ∀ n, (ordG n).length = 3 * n
  | 0 => rfl
  | n + 1 => by rw [ordG, List.length_append, ordG_len n]; simp; omega
theorem ordH_len : ∀ ks : List Nat, (ordH ks).length = 3 * ks.length
  | [] => rfl
  | k :: r => by rw [ordH, List.length_append, ordH_len r]; simp; omega
theorem ordH_app : ∀ a b : List Nat, ordH (a ++ b) = ordH a ++ ordH b
  | [], _ => rfl
  | k :: a, b => by rw [List.cons_append, ordH, ordH_app a b, ordH, List.append_assoc]
theorem ordC_len (K : Nat) (ks : List Nat) : (ordC K ks).length = 3 * K + 3 * ks.length + 2 := by
  simp [ordC, ordG_len, ordH_len]
  omega
/- the check -/
theorem str_cons {ns : List Int} {i : Int × Int} {r : List (Int × Int)} {dep b : Int} (h1 : onB i.1 = true) (h0 : 0 ≤ dep) (hb : behL ns i dep = some b) (hr : ∃ D, strL ns r b = some D) : ∃ D, strL ns (i :: r) dep = some D := by
  obtain ⟨D, hD⟩ := hr
  cases r with
  | nil => cases hD
  | cons j r =>
    rw [strL, if_pos ⟨h1, h0⟩]
    simp only [hb, hD]
    exact ⟨_, rfl⟩
theorem str_H : ∀ (ks : List Nat) (r : List (Int × Int)), (∃ D, strL [0, 1] r 1 = some D) → ∃ D, strL [0, 1] (ordH ks ++ r) 1 = some D
  | [], r, h => h
  | k :: ks, r, h => by
    have := str_H ks r h
    rw [ordH, List.append_assoc]
    exact str_cons (b := 2) rfl (by decide) (by kernel_rfl) (str_cons (b := 2) (by decide) (by decide) (by kernel_rfl) (str_cons (b := 1) (by decide) (by decide) (by kernel_rfl) this))
theorem str_G : ∀ (n : Nat) (r : List (Int × Int)), (∃ D, strL [0, 1] r 0 = some D) → ∃ D, strL [0, 1] (ordG n ++ r) 0 = some D
  | 0, r, h => h
  | n + 1, r, h => by
    rw [ordG, List.append_assoc]
    refine str_G n _ ?_
    exact str_cons (b := 1) rfl (by decide) (by kernel_rfl) (str_cons (b := 1) (by decide) (by decide) (by kernel_rfl) (str_cons (b := 0) (by decide) (by decide) (by kernel_rfl) h))
theorem ord_deps (K : Nat) (ks : List Nat) : ∃ D, depthsL [0, 1] (ordC K ks) = .ok D := by
  obtain ⟨D, hD⟩ : ∃ D, strL [0, 1] (ordC K ks) 0 = some D := by
    unfold ordC
    refine str_G K _ ?_
    refine str_cons (i := (1, 0)) (r := ordH ks ++ [(18, 0)]) (b := 1) (by decide) (by decide) (by kernel_rfl) ?_
    exact str_H ks _ ⟨[1], by kernel_rfl⟩
  exact ⟨D, depths_str hD⟩
theorem ord_check (K : Nat) (ks : List Nat) (hK : K ≤ 16) (hk : ks.length ≤ 20) : (checkL (ordF K ks) 0 0 500 50).2.2 = 0 := by
  have hG : ∀ (lo : Int) (nc : Nat) (n : Nat), ∀ x ∈ ordG n, insErr lo nc 2 x.1 x.2 = 0 := by
    intro lo nc n
    induction n with
    | zero => intro x hx; simp [ordG] at hx
    | succ n ih =>
      intro x hx
      simp only [ordG, List.mem_append, List.mem_cons, List.not_mem_nil, or_false] at hx
      rcases hx with hx | rfl | rfl | rfl
      · exact ih x hx
      · kernel_rfl
      · kernel_rfl
      · kernel_rfl
  have hH : ∀ (lo : Int) (nc : Nat) (ks : List Nat), ∀ x ∈ ordH ks, insErr lo nc 2 x.1 x.2 = 0 := by
    intro lo nc ks
    induction ks with
    | nil => intro x hx; simp [ordH] at hx
    | cons k r ih =>
      intro x hx
      simp only [ordH, List.mem_append, List.mem_cons, List.not_mem_nil, or_false] at hx
      rcases hx with (rfl | rfl | rfl) | hx
      · kernel_rfl
      · kernel_rfl
      · kernel_rfl
      · exact ih x hx
  have f0 : (funcErr (ordF K ks) 0 ⟨fnm, 0, 0, ordC K ks⟩).2 = 0 := by
    have hh : headErr (ordF K ks) 0 ⟨fnm, 0, 0, ordC K ks⟩ = 0 := by
      unfold headErr
      rw [if_neg (by show ¬ ((isNameL fnm.data.toList && !(decide (0 ≤ findF fnm []))) = false); decide +kernel), if_neg (by show ¬ (inB 0 0 8 = false); decide), if_neg (by show ¬ (inB 0 0 16 = false); decide), if_neg (by
        have e1 : inB (((ordC K ks).length : Nat) : Int) 1 256 = true := by
          rw [ordC_len]
          simp [inB]
          omega
        rw [e1]; simp)]
    have hi : insFrom 0 (ordC K ks).length 2 0 (ordC K ks) = (0, 0) := by
      refine insFrom_ok _ 0 (fun x hx => ?_)
      simp only [ordC, List.mem_append, List.mem_cons, List.not_mem_nil, or_false] at hx
      rcases hx with hx | rfl | hx | rfl
      · exact hG 0 _ K x hx
      · kernel_rfl
      · exact hH 0 _ ks x hx
      · kernel_rfl
    unfold funcErr
    rw [if_neg (by rw [hh]; simp), if_neg (by rw [show insFrom (⟨fnm, 0, 0, ordC K ks⟩ : Fun).locals (⟨fnm, 0, 0, ordC K ks⟩ : Fun).code.length (ordF K ks).length 0 (⟨fnm, 0, 0, ordC K ks⟩ : Fun).code = (0, 0) from hi]; simp)]
    obtain ⟨D, hD⟩ := ord_deps K ks
    rw [show depthsL ((ordF K ks).map Fun.args) (⟨fnm, 0, 0, ordC K ks⟩ : Fun).code = _ from hD]
  have f1 : (funcErr (ordF K ks) 1 ordGf).2 = 0 := by
    have hh : headErr (ordF K ks) 1 ordGf = 0 := by
      unfold headErr
      rw [if_neg (by show ¬ ((isNameL gnm.data.toList && !(decide (0 ≤ findF gnm [⟨fnm, 0, 0, ordC K ks⟩]))) = false); intro h; rw [show (isNameL gnm.data.toList && !(decide (0 ≤ findF gnm [⟨fnm, 0, 0, ordC K ks⟩]))) = true by kernel_rfl] at h; cases h), if_neg (by show ¬ (inB 1 0 8 = false); decide), if_neg (by show ¬ (inB 1 1 16 = false); decide), if_neg (by show ¬ (inB ((4 : Nat) : Int) 1 256 = false); decide)]
    unfold funcErr
    rw [if_neg (by rw [hh]; simp), if_neg (by rw [show insFrom ordGf.locals ordGf.code.length (ordF K ks).length 0 ordGf.code = (0, 0) from (by kernel_rfl : insFrom 1 4 2 0 [(5, 0), (1, 1), (7, 0), (18, 0)] = (0, 0))]; simp)]
    rw [show depthsL ((ordF K ks).map Fun.args) ordGf.code = .ok [0, 1, 2, 1] by kernel_rfl]
  have hj : jobErr (ordF K ks) 0 0 500 50 = 0 := by kernel_rfl
  unfold checkL
  rw [if_pos hj]
  show (checkFrom (ordF K ks) 0 [⟨fnm, 0, 0, ordC K ks⟩, ordGf]).2.2 = 0
  unfold checkFrom
  rw [if_pos f0]
  unfold checkFrom
  rw [if_pos f1]
  rfl
/- the code, place by place -/
theorem ordG_at : ∀ (n i : Nat) (t : List (Int × Int)), i < n → (ordG n ++ t)[3 * i]? = some (1, ((10 * i : Nat) : Int)) ∧ (ordG n ++ t)[3 * i + 1]? = some (16, 1) ∧ (ordG n ++ t)[3 * i + 2]? = some (2, 0)
  | 0, _, _, h => by omega
  | n + 1, i, t, h => by
    rw [ordG, List.append_assoc]
    by_cases e : i = n
    · subst e
      have hl := ordG_len i
      refine ⟨?_, ?_, ?_⟩
      · rw [List.getElem?_append_right (by omega), hl, Nat.sub_self]; rfl
      · rw [List.getElem?_append_right (by omega), hl, Nat.add_sub_cancel_left]; rfl
      · rw [List.getElem?_append_right (by omega), hl, Nat.add_sub_cancel_left]; rfl
    · exact ordG_at n i _ (by omega)
theorem ordC_mid (K : Nat) (pre r : List Nat) (x : Int × Int) (q : Nat) (h : (ordH r ++ [(18, 0)])[q]? = some x) : (ordC K (pre ++ r))[3 * K + 1 + 3 * pre.length + q]? = some x := by
  unfold ordC
  rw [List.getElem?_append_right (by rw [ordG_len]; omega), ordG_len, List.getElem?_append_right (by simp; omega), ordH_app, List.append_assoc, List.getElem?_append_right (by rw [ordH_len]; simp; omega), ordH_len]
  rw [← h]
  congr 1
  simp
  omega
theorem ordC_zero (K : Nat) (ks : List Nat) : (ordC K ks)[3 * K]? = some (1, 0) := by
  unfold ordC
  rw [List.getElem?_append_right (by rw [ordG_len]; omega), ordG_len, Nat.sub_self]
  rfl
end Go.Proofs.YtbpcibnomkfglaaGreatDoor
