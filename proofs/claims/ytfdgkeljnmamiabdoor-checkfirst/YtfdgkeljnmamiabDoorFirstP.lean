/- CheckFirst's jobs, plain. -/
import Derived.Test.YtfdgkeljnmamiabDoorTallW
namespace Go.Proofs.YtfdgkeljnmamiabDoor
open Go.RowKit Go.ChangeShapes Go.WideShapes Go.ChangeAt Go.Deep

def abc : ByteArray := ⟨#[97, 98, 99, 100, 101, 102, 103, 104, 105, 106, 107, 108, 109, 110, 111, 112, 113, 114, 115, 116, 117, 118, 119, 120, 121, 122]⟩
def nameAt (i : Nat) : ByteArray := abc.extract i (i + 1)
def codeOf (b : Bool) : List (Int × Int) := [(1, 0), (if b then 2 else 18, 0)]
def funOf (b : Bool) (i : Nat) : Fun := ⟨nameAt i, 0, 0, codeOf b⟩
def fsFrom : Nat → List Bool → List Fun
  | _, [] => []
  | i, b :: r => funOf b i :: fsFrom (i + 1) r
def fsOf (l : List Bool) : List Fun := fsFrom 0 l
theorem fsFrom_len : ∀ (l : List Bool) (i : Nat), (fsFrom i l).length = l.length
  | [], _ => rfl
  | _ :: r, i => by simp [fsFrom, fsFrom_len r]
theorem fsFrom_at : ∀ (l : List Bool) (i k : Nat) (b : Bool), l[k]? = some b → (fsFrom i l)[k]? = some (funOf b (i + k))
  | [], _, _, _, h => by simp at h
  | a :: r, i, 0, b, h => by simp at h; subst h; rfl
  | a :: r, i, k + 1, b, h => by
    have := fsFrom_at r (i + 1) k b (by simpa using h)
    rw [show i + 1 + k = i + (k + 1) by omega] at this
    simpa [fsFrom] using this
theorem fsOf_len (l : List Bool) : (fsOf l).length = l.length := fsFrom_len l 0
theorem fsOf_at {l : List Bool} {k : Nat} {b : Bool} (h : l[k]? = some b) : (fsOf l)[k]? = some (funOf b k) := by
  have := fsFrom_at l 0 k b h
  rwa [Nat.zero_add] at this
theorem fsFrom_append (a b : List Bool) (i : Nat) : fsFrom i (a ++ b) = fsFrom i a ++ fsFrom (i + a.length) b := by
  induction a generalizing i with
  | nil => simp [fsFrom]
  | cons x r ih => simp [fsFrom, ih, show i + 1 + r.length = i + (r.length + 1) by omega]
theorem fsOf_next (l : List Bool) (b : Bool) : fsOf (l ++ [b]) = fsOf l ++ [funOf b l.length] := by
  unfold fsOf
  rw [fsFrom_append, Nat.zero_add]
  rfl
/-- Which of them is the first wrong one; -1: none. -/
def wantL (l : List Bool) : Int := if l.idxOf true < l.length then ((l.idxOf true : Nat) : Int) else -1
theorem name_ne : ∀ i j : Fin 26, i ≠ j → ((nameAt i.1).toList == (nameAt j.1).toList) = false := by decide +kernel
theorem name_ok : ∀ i : Fin 26, isNameL (nameAt i.1).data.toList = true ∧ (nameAt i.1).size = 1 := by decide +kernel
theorem find_none (nm : ByteArray) : ∀ (l : List Fun) (i : Nat), (∀ f ∈ l, (f.name.toList == nm.toList) = false) → findFrom nm l i = -1
  | [], _, _ => rfl
  | f :: r, i, h => by
    unfold findFrom
    rw [if_neg (by rw [h f (by simp)]; simp)]
    exact find_none nm r (i + 1) (fun g hg => h g (by simp [hg]))
theorem mem_fsOf {l : List Bool} {f : Fun} {k : Nat} (h : f ∈ (fsOf l).take k) : ∃ i b, i < k ∧ l[i]? = some b ∧ f = funOf b i := by
  obtain ⟨i, hi⟩ := List.getElem?_of_mem h
  rw [List.getElem?_take] at hi
  split at hi
  · rename_i hik
    have hl : i < l.length := by
      rcases Nat.lt_or_ge i l.length with q | q
      · exact q
      · rw [List.getElem?_eq_none (by rw [fsOf_len]; exact q)] at hi; cases hi
    have hb : l[i]? = some l[i] := List.getElem?_eq_getElem hl
    rw [fsOf_at hb] at hi
    exact ⟨i, l[i], hik, hb, (Option.some.inj hi).symm⟩
  · cases hi
theorem head_ok {l : List Bool} (hl : l.length ≤ 26) {k : Nat} {b : Bool} (hk : l[k]? = some b) : headErr (fsOf l) k (funOf b k) = 0 := by
  have hk26 : k < 26 := by
    have := (List.getElem?_eq_some_iff.1 hk).1
    omega
  unfold headErr
  have h1 : findF (funOf b k).name ((fsOf l).take k) = -1 := find_none _ _ _ (fun f hf => by
    obtain ⟨i, c, hik, _, rfl⟩ := mem_fsOf hf
    exact name_ne ⟨i, by omega⟩ ⟨k, hk26⟩ (by intro h; simp at h; omega))
  rw [h1]
  have h2 := (name_ok ⟨k, hk26⟩).1
  show (if (isNameL (nameAt k).data.toList && !decide ((0 : Int) ≤ -1)) = false then (6 : Int) else _) = 0
  rw [h2]
  cases b <;> rfl
theorem dep_first (args : List Int) (b : Bool) : depthsL args (codeOf b) = if b then .error (1, 11) else .ok [0, 1] := by
  cases b <;> rfl
theorem ins_plain {lo : Int} {nc nf : Nat} {op n : Int} (h1 : ((kindOf op).word.toList.isEmpty || !((kindOf op).hasN || decide (n = 0))) = false) (h2 : ¬ (op = 5 ∨ op = 6) ∧ ¬ (op = 14 ∨ op = 15) ∧ ¬ op = 16) : insErr lo nc nf op n = 0 := by
  unfold insErr
  rw [h1, if_neg (by simp), if_neg h2.1, if_neg h2.2.1, if_neg h2.2.2]
theorem func_first {l : List Bool} (hl : l.length ≤ 26) {k : Nat} {b : Bool} (hk : l[k]? = some b) : funcErr (fsOf l) k (funOf b k) = if b then (1, 11) else (0, 0) := by
  unfold funcErr
  rw [head_ok hl hk, if_neg (by simp)]
  have h1 : (insFrom (funOf b k).locals (funOf b k).code.length (fsOf l).length 0 (funOf b k).code) = (0, 0) := insFrom_ok _ _ (fun x hx => by
    cases b
    · simp [funOf, codeOf] at hx; rcases hx with rfl | rfl <;> exact ins_plain (by decide +kernel) (by decide)
    · simp [funOf, codeOf] at hx; rcases hx with rfl | rfl <;> exact ins_plain (by decide +kernel) (by decide))
  rw [h1, if_neg (by simp)]
  show (match depthsL ((fsOf l).map Fun.args) (codeOf b) with | .error q => q | .ok _ => (0, 0)) = _
  rw [dep_first]
  cases b <;> rfl
theorem want_none {l : List Bool} (h : ∀ b ∈ l, b = false) : wantL l = -1 := by
  unfold wantL
  rw [if_neg]
  rw [List.idxOf_lt_length_iff]
  intro hm
  have := h true hm
  simp at this
theorem want_at {l : List Bool} {k : Nat} (hk : l[k]? = some true) (h : ∀ j b, j < k → l[j]? = some b → b = false) : wantL l = (k : Int) := by
  have hlt := (List.getElem?_eq_some_iff.1 hk).1
  have e : l.idxOf true = k := by
    unfold List.idxOf
    rw [List.findIdx_eq hlt]
    refine ⟨by have := (List.getElem?_eq_some_iff.1 hk).2; simp [this], fun j hj => ?_⟩
    have := h j _ hj (List.getElem?_eq_getElem (by omega))
    simp [this]
  unfold wantL
  rw [e, if_pos hlt]
theorem job_first {l : List Bool} (h1 : 1 ≤ l.length) (hl : l.length ≤ 26) : jobErr (fsOf l) 0 0 10 10 = 0 := by
  unfold jobErr
  rw [fsOf_len, if_neg (by omega), if_neg (by omega)]
  have h2 : hasB l.length 0 = true := by simp [hasB, inB]; omega
  have h3 : ((fsOf l).map Fun.args).getD (0 : Int).toNat 0 = 0 := by
    cases l with
    | nil => simp at h1
    | cons b r => rfl
  rw [h2, h3]
  decide
theorem check_none {l : List Bool} (h1 : 1 ≤ l.length) (hl : l.length ≤ 26) (h : ∀ b ∈ l, b = false) : checkL (fsOf l) 0 0 10 10 = (0, 0, 0) := by
  unfold checkL
  rw [if_pos (job_first h1 hl)]
  refine checkFrom_ok _ _ (fun j f hf => ?_)
  have hj : j < l.length := by have := (List.getElem?_eq_some_iff.1 hf).1; rwa [fsOf_len] at this
  have hb := List.getElem?_eq_getElem hj
  rw [fsOf_at hb] at hf
  cases hf
  rw [Nat.zero_add, func_first hl hb, h _ (List.getElem_mem hj)]
  rfl
theorem check_first {l : List Bool} (hl : l.length ≤ 26) {k : Nat} (hk : l[k]? = some true) (h : ∀ j b, j < k → l[j]? = some b → b = false) : checkL (fsOf l) 0 0 10 10 = ((k : Int), 1, 11) := by
  have hlt := (List.getElem?_eq_some_iff.1 hk).1
  unfold checkL
  rw [if_pos (job_first (by omega) hl)]
  have := checkFrom_at (fs := fsOf l) (fsOf l) 0 k (funOf true k) (fsOf_at hk) (fun i g hi hg => by
    have hil : i < l.length := by omega
    have hb := List.getElem?_eq_getElem hil
    rw [fsOf_at hb] at hg
    cases hg
    rw [Nat.zero_add, func_first hl hb, h i _ hi hb]
    rfl) (by rw [Nat.zero_add, func_first hl hk]; simp)
  rw [this, Nat.zero_add, func_first hl hk]
  rfl
theorem first_cases (l : List Bool) : (∀ b ∈ l, b = false) ∨ ∃ k : Nat, l[k]? = some true ∧ ∀ (j : Nat) (b : Bool), j < k → l[j]? = some b → b = false := by
  by_cases h : true ∈ l
  · refine .inr ⟨l.idxOf true, ?_, fun j b hj hb => ?_⟩
    · have hlt := List.idxOf_lt_length_iff.2 h
      rw [List.getElem?_eq_getElem hlt]
      simp
    · cases b with
      | false => rfl
      | true =>
        have := List.not_of_lt_findIdx hj
        obtain ⟨hk, e⟩ := List.getElem?_eq_some_iff.1 hb
        simp [e] at this
  · exact .inl (fun b hb => by cases b with | false => rfl | true => exact absurd hb h)
end Go.Proofs.YtfdgkeljnmamiabDoor
