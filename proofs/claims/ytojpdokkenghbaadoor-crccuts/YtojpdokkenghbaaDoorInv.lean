/- A region that draws its order, by an invariant: each operation is met once, in whatever state it may come up. No program is named here. -/
import Derived.Deep.RegionHeld3
namespace Go.Proofs.YtojpdokkenghbaaDoor

section
variable {P : Program} {md : Region.Mode} {ops : Array Oper} {Q : Exit → Act → World → Prop}

/-- Every operation waits for elder ones alone. -/
def backB (ops : Array Oper) : Bool := (List.range ops.size).all fun i => match ops[i]? with | none => true | some o => o.after.all fun e => decide (e.on < i)

theorem back_lt (h : backB ops = true) {i : Nat} {o : Oper} (ho : ops[i]? = some o) : ∀ e ∈ o.after, e.on < i := by
  have hi : i < ops.size := (Array.getElem?_eq_some_iff.1 ho).1
  have h1 := List.all_eq_true.1 h i (List.mem_range.2 hi)
  rw [ho] at h1
  intro e he
  simpa using Array.all_eq_true_iff_forall_mem.1 h1 e he

/-- Where nothing may come up all has come up. -/
theorem all_listed (hb : backB ops = true) {listed : Array Bool} (hr : Region.ready md ops listed = []) : ∀ (n j : Nat), j < n → j < ops.size → listed.getD j true = true := by
  intro n
  induction n with
  | zero => intro j hj _; omega
  | succ n ih =>
    intro j hj hjs
    rcases Nat.lt_or_ge j n with h | h
    · exact ih j h hjs
    · obtain rfl : j = n := by omega
      cases hl : listed.getD j true with
      | true => rfl
      | false =>
        have hm : j ∈ Region.ready md ops listed := mem_ready.2 ⟨hl, ops[j], Array.getElem?_eq_getElem hjs, fun e he _ => by
          have hlt := back_lt hb (Array.getElem?_eq_getElem hjs) e he
          have := ih e.on hlt (by omega)
          have hjl : j < listed.size := by
            rcases Nat.lt_or_ge j listed.size with h | h
            · exact h
            · simp [Array.getD, Nat.not_lt.2 h] at hl
          simp only [Array.getD, show e.on < listed.size from by omega, dif_pos] at this ⊢
          exact this⟩
        rw [hr] at hm; cases hm

theorem ready_un {listed : Array Bool} {i : Nat} (h : i ∈ Region.ready md ops listed) : listed.getD i true = false := (mem_ready.1 h).1
theorem ready_dep {listed : Array Bool} {i : Nat} {o : Oper} (h : i ∈ Region.ready md ops listed) (ho : ops[i]? = some o) {e : Edge} (he : e ∈ o.after) (hb : Region.binds md e = true) : listed.getD e.on false = true := by
  obtain ⟨_, o', ho', hall⟩ := mem_ready.1 h
  rw [ho] at ho'
  cases ho'
  exact hall e he hb
theorem ready_lt {listed : Array Bool} {i : Nat} (h : i ∈ Region.ready md ops listed) : i < ops.size := by
  obtain ⟨_, o', ho', _⟩ := mem_ready.1 h
  exact (Array.getElem?_eq_some_iff.1 ho').1

/-- How many have not come up. -/
def left (listed : Array Bool) : Nat := listed.toList.countP (fun b => !b)

theorem left_set {listed : Array Bool} {i : Nat} (h : listed.getD i true = false) : left (listed.setIfInBounds i true) + 1 = left listed := by
  have hi : i < listed.size := by
    rcases Nat.lt_or_ge i listed.size with h' | h'
    · exact h'
    · simp [Array.getD, Nat.not_lt.2 h'] at h
  obtain ⟨l⟩ := listed
  simp only [left, List.setIfInBounds_toArray]
  simp only [List.size_toArray] at hi
  have hl : l[i] = false := by simpa [Array.getD, hi] using h
  clear h
  induction l generalizing i with
  | nil => simp at hi
  | cons b r ih =>
    cases i with
    | zero => simp at hl; subst hl; simp
    | succ i =>
      simp only [List.set_cons_succ, List.countP_cons]
      have := ih (i := i) (by simpa using hi) (by simpa using hl)
      omega

/-- THE LAW: a state that every operation that may come up hands on. -/
theorem wpAnyH_inv (I : Array Bool → Act → World → Prop) (hb : backB ops = true)
    (step : ∀ listed a w, I listed a w → ∀ i, i ∈ Region.ready md ops listed → wpOp P ops Q i (fun a' w' => I (listed.setIfInBounds i true) a' w') a w)
    (done : ∀ listed a w, I listed a w → (∀ j, j < ops.size → listed.getD j true = true) → Q .normal a w) :
    ∀ (fuel : Nat) (listed : Array Bool) (a : Act) (w : World), left listed ≤ fuel → I listed a w → wpAnyH P md ops Q (fun _ => True) fuel listed a w := by
  intro fuel
  induction fuel with
  | zero =>
    intro listed a w hf hI
    have hr : Region.ready md ops listed = [] := by
      cases h : Region.ready md ops listed with
      | nil => rfl
      | cons i r =>
        have := left_set (ready_un (md := md) (ops := ops) (by rw [h]; exact List.mem_cons_self))
        omega
    exact ⟨hr, done listed a w hI (fun j hj => all_listed hb hr _ j hj hj)⟩
  | succ fuel ih =>
    intro listed a w hf hI
    refine ⟨fun hr => done listed a w hI (fun j hj => all_listed hb hr _ j hj hj), fun i hi => ?_⟩
    have h1 := left_set (ready_un hi)
    exact wpOp_mono (fun a' w' h => ⟨trivial, ih _ a' w' (by omega) h⟩) (step listed a w hI i hi)

/-- The law, from a state that the goal names. -/
theorem wpAnyH_from (I : Act → Array Bool → Act → World → Prop) (hb : backB ops = true) {fuel : Nat} {listed : Array Bool} {A : Act} {w : World} (hl : left listed ≤ fuel) (start : I A listed A w)
    (step : ∀ listed a w, I A listed a w → ∀ i, i ∈ Region.ready md ops listed → wpOp P ops Q i (fun a' w' => I A (listed.setIfInBounds i true) a' w') a w)
    (done : ∀ listed a w, I A listed a w → (∀ j, j < ops.size → listed.getD j true = true) → Q .normal a w) : wpAnyH P md ops Q (fun _ => True) fuel listed A w :=
  wpAnyH_inv (I A) hb step done fuel listed A w hl start

/-- What a slot holds. -/
def self (A : Act) (d : Nat) : Value := A.tmps[d]?.getD undef
theorem set_self (t : Array Value) (d : Nat) : t.setIfInBounds d (t[d]?.getD undef) = t := by
  apply Array.ext
  · simp
  · intro i h1 h2
    rw [Array.getElem_setIfInBounds (hj := h2)]
    by_cases h : d = i
    · subst h; simp [h2]
    · rw [if_neg h]
theorem put_self (A : Act) (d : Nat) : A.put (some d) (self A d) = A := by
  obtain ⟨t, df⟩ := A
  show Act.mk (t.setIfInBounds d (t[d]?.getD undef)) _ = _
  rw [set_self]

/-- One operation, its continuation hidden. -/
theorem wpOp_hid {i : Nat} {o : Oper} {K : Act → World → Prop} {a : Act} {w : World} (ho : ops[i]? = some o)
    (h : ∀ K' : Act → World → Prop, Shut (∀ a w, K a w → K' a w) → if Region.wanted o (yielded ops a.tmps) = true then Oper.wp P o a w K' Q else K' (a.put o.dst undef) w) : wpOp P ops Q i K a w :=
  wpOp_step ho (fun K' hK => h K' hK)
end
end Go.Proofs.YtojpdokkenghbaaDoor
