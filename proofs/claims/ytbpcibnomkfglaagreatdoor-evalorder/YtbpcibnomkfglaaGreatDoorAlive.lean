/- One, num, Depths, alive. -/
import Derived.Test.YtbpcibnomkfglaaGreatDoorCheckW
namespace Go.Proofs.YtbpcibnomkfglaaGreatDoor
open Go.RowKit Go.ChangeShapes Go.WideShapes Go.ChangeAt Go.Deep

def fnm : ByteArray := ⟨#[102]⟩
def oneJ (h : Nat) : JV := ⟨some ⟨h, 0, none⟩, 1, 1, 0, none, 0, 0, 100, 50⟩
def oneF (code : List (Int × Int)) : List Fun := [⟨fnm, 0, 0, code⟩]
/-- What Check answers of the job of one function with that code. -/
def oneL (code : List (Int × Int)) : Int × Int × Int := checkL (oneF code) 0 0 100 50

def OnePost (a : Option Addr) (n cap : Nat) (w : World) (r : Ending) (w' : World) : Prop :=
  ∃ h, r = .returned (.agg (oneJ h).cells) ∧ w'.heap[h]? = some (.cells [.string fnm, .int .i64 0, .int .i64 0, .slice a n cap].toArray 43 (0, 0)) ∧ Below w.heap.size w w'

set_option maxRecDepth 100000 in
set_option maxHeartbeats 400000 in
theorem one_any (a : Option Addr) (n cap : Nat) (w : World) : Calls Tryz.prog 14 #[.slice a n cap] w (OnePost a n cap w) := by
  go_enter Tryz.func14, Tryz.ntmps14
  go_wp2
  refine bodyPost_ret (v := .agg #[.slice (some ⟨w.heap.size + 1, 0, none⟩) 1 1, .int .i64 0, .slice none 0 0, .int .i64 100, .int .i64 50]) (by simp [results, Tryz.results14, go_sem]) rfl ?_
  refine ⟨w.heap.size + 1, rfl, ?_, ?_⟩
  · have := heap_alloc_new (w.alloc (.cells #[.slice (some ⟨w.heap.size + 1, 0, none⟩) 1 1, .int .i64 0, .slice none 0 0, .int .i64 100, .int .i64 50] 30)) (.cells #[.string ⟨#[102]⟩, .int .i64 0, .int .i64 0, .slice a n cap] 43)
    rwa [show (w.alloc (.cells #[.slice (some ⟨w.heap.size + 1, 0, none⟩) 1 1, .int .i64 0, .slice none 0 0, .int .i64 100, .int .i64 50] 30)).heap.size = w.heap.size + 1 by simp] at this
  · exact ((Below.refl _ _).alloc (Nat.le_refl _) _).alloc (by simp) _

theorem job_one {w : World} {h : Nat} {a : Option Addr} {n cap : Nat} {code : List (Int × Int)} (hrow : w.heap[h]? = some (.cells [.string fnm, .int .i64 0, .int .i64 0, .slice a n cap].toArray 43 (0, 0))) (hn : code.length = n) (hr : Reads w a (insV code)) :
    JobR w (oneJ h) [.slice a n cap] (oneF code) [] :=
  ⟨rfl, Nat.le_refl _, rfl, .inr ⟨h, 0, rfl, lt_row hrow, fun j hj i v hv => by
      have hj0 : j = 0 := by simp [frs, oneF] at hj; omega
      subst hj0
      rw [show 0 + 0 * 4 + i = i by omega]
      exact cell_row hrow hv⟩, fun i h h' => by
        have hi : i = 0 := by simp at h; omega
        subst hi
        exact ⟨a, cap, by simp [oneF, hn], by simpa [oneF] using hr⟩, rfl, .inl rfl⟩

theorem one_check {w : World} {h : Nat} {a : Option Addr} {n cap : Nat} (code : List (Int × Int)) (hrow : w.heap[h]? = some (.cells [.string fnm, .int .i64 0, .int .i64 0, .slice a n cap].toArray 43 (0, 0))) (hn : code.length = n) (hr : Reads w a (insV code)) (hE : Env w) (hb : n ≤ 1000000000) :
    Calls Tryz.prog 16 #[.agg (oneJ h).cells] w (CheckPost w (oneL code)) :=
  check_any (oneJ h) _ (oneF code) [] w (job_one hrow hn hr) hE (by simp [oneF]) (fun f hf => by
    simp [oneF] at hf
    subst hf
    exact ⟨by show code.length ≤ _; omega, by show fnm.size < _; decide⟩)

/-- The depths that Depths answers. -/
def depsOf (fs : List Fun) (main : Int) (na : Nat) (fuel tasks f : Int) : List Int :=
  if (checkL fs main na fuel tasks).2.2 = 0 ∧ hasB fs.length f = true then
    match fs[f.toNat]? with
    | some g => match depthsL (fs.map Fun.args) g.code with
      | .ok d => d
      | .error _ => []
    | none => []
  else []
theorem func_good {fs : List Fun} {k : Nat} {f : Fun} : ∀ {l : List Fun} {s : Nat}, checkFrom fs s l = (0, 0, 0) → l[k]? = some f → (funcErr fs (s + k) f).2 = 0 := by
  intro l
  induction l generalizing k with
  | nil => intro s h1 h2; simp at h2
  | cons g r ih =>
    intro s h1 h2
    rw [checkFrom] at h1
    split at h1
    · rename_i hz
      cases k with
      | zero => simp at h2; subst h2; simpa using hz
      | succ k =>
        have := ih h1 (by simpa using h2)
        rwa [show s + 1 + k = s + (k + 1) by omega] at this
    · rename_i hz
      simp at h1
      exact absurd h1.2.2 hz
theorem func_parts {fs : List Fun} {k : Nat} {f : Fun} (h : (funcErr fs k f).2 = 0) : headErr fs k f = 0 ∧ ∃ d, depthsL (fs.map Fun.args) f.code = .ok d := by
  unfold funcErr at h
  split at h
  · rename_i h1; exact absurd h h1
  · rename_i h1
    split at h
    · rename_i h2; exact absurd h h2
    · refine ⟨by simpa using h1, ?_⟩
      cases hd : depthsL (fs.map Fun.args) f.code with
      | ok d => exact ⟨d, rfl⟩
      | error q => rw [hd] at h; exact absurd h (depthsL_ne hd)
theorem head_parts {fs : List Fun} {k : Nat} {f : Fun} (h : headErr fs k f = 0) : inB f.code.length 1 256 = true := by
  unfold headErr at h
  split at h
  · cases h
  · split at h
    · cases h
    · split at h
      · cases h
      · split at h
        · cases h
        · rename_i h4; simpa using h4
theorem check_good {fs : List Fun} {main : Int} {na : Nat} {fuel tasks : Int} (h : (checkL fs main na fuel tasks).2.2 = 0) : checkL fs main na fuel tasks = (0, 0, 0) ∧ checkFrom fs 0 fs = (0, 0, 0) := by
  unfold checkL at h ⊢
  split at h
  · rename_i hj
    rw [if_pos hj]
    have : ∀ (l : List Fun) (k : Nat), (checkFrom fs k l).2.2 = 0 → checkFrom fs k l = (0, 0, 0) := by
      intro l
      induction l with
      | nil => intro k _; rfl
      | cons g r ih =>
        intro k hk
        rw [checkFrom] at hk ⊢
        split at hk
        · rename_i hz; rw [if_pos hz]; exact ih _ hk
        · rename_i hz; exact absurd hk hz
    exact ⟨this fs 0 h, this fs 0 h⟩
  · rename_i hj; exact absurd h hj
theorem deps_at {fs : List Fun} {main : Int} {na : Nat} {fuel tasks : Int} {k : Nat} {f : Fun} (h : (checkL fs main na fuel tasks).2.2 = 0) (hk : fs[k]? = some f) : (1 ≤ f.code.length ∧ f.code.length ≤ 256) ∧ ∃ d, depthsL (fs.map Fun.args) f.code = .ok d ∧ depsOf fs main na fuel tasks (k : Int) = d := by
  have hg := func_good (check_good h).2 hk
  rw [Nat.zero_add] at hg
  obtain ⟨h1, d, hd⟩ := func_parts hg
  have h2 := head_parts h1
  simp [inB] at h2
  refine ⟨by omega, d, hd, ?_⟩
  have hlt : k < fs.length := by
    rcases Nat.lt_or_ge k fs.length with h | h
    · exact h
    · rw [List.getElem?_eq_none h] at hk; cases hk
  unfold depsOf
  rw [if_pos ⟨h, by simp [hasB, inB]; omega⟩]
  simp [hk, hd]

def DepsPost (w : World) (D : List Int) (r : Ending) (w' : World) : Prop := ∃ a cap, r = .returned (.slice a D.length cap) ∧ Reads w' a (iV D) ∧ Below w.heap.size w w'

end Go.Proofs.YtbpcibnomkfglaaGreatDoor
