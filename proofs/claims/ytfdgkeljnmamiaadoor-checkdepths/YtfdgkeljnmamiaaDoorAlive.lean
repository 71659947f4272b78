/- One, num, Depths, alive. -/
import Derived.Test.YtfdgkeljnmamiaaDoorCheckW
namespace Go.Proofs.YtfdgkeljnmamiaaDoor
open Go.RowKit Go.ChangeShapes Go.WideShapes Go.ChangeAt Go.Deep

def fnm : ByteArray := ⟨#[102]⟩
def oneJ (h : Nat) : JV := ⟨some ⟨h, 0, none⟩, 1, 1, 0, none, 0, 0, 100, 50⟩
def oneF (code : List (Int × Int)) : List Fun := [⟨fnm, 0, 0, code⟩]
/-- What Check answers of the job of one function with that code. -/
def oneL (code : List (Int × Int)) : Int × Int × Int := checkL (oneF code) 0 0 100 50

def OnePost (a : Option Addr) (n cap : Nat) (w : World) (r : Ending) (w' : World) : Prop :=
  ∃ h, r = .returned (.agg (oneJ h).cells) ∧ w'.heap[h]? = some (.cells [.string fnm, .int .i64 0, .int .i64 0, .slice a n cap].toArray 43 (0, 0)) ∧ Below w.heap.size w w'

set_option maxRecDepth 100000 in
set_option maxHeartbeats 400000 in
theorem one_any (a : Option Addr) (n cap : Nat) (w : World) : Calls Tryd.prog 17 #[.slice a n cap] w (OnePost a n cap w) := by
  go_enter Tryd.func17, Tryd.ntmps17
  go_wp2
  refine bodyPost_ret (v := .agg #[.slice (some ⟨w.heap.size + 1, 0, none⟩) 1 1, .int .i64 0, .slice none 0 0, .int .i64 100, .int .i64 50]) (by simp [results, Tryd.results17, go_sem]) rfl ?_
  refine ⟨w.heap.size + 1, rfl, ?_, ?_⟩
  · have := heap_alloc_new (w.alloc (.cells #[.slice (some ⟨w.heap.size + 1, 0, none⟩) 1 1, .int .i64 0, .slice none 0 0, .int .i64 100, .int .i64 50] 25)) (.cells #[.string ⟨#[102]⟩, .int .i64 0, .int .i64 0, .slice a n cap] 43)
    rwa [show (w.alloc (.cells #[.slice (some ⟨w.heap.size + 1, 0, none⟩) 1 1, .int .i64 0, .slice none 0 0, .int .i64 100, .int .i64 50] 25)).heap.size = w.heap.size + 1 by simp] at this
  · exact ((Below.refl _ _).alloc (Nat.le_refl _) _).alloc (by simp) _

theorem num_any (e : Int) (w : World) : Calls Tryd.prog 13 #[.int .i64 e] w fun r w' => r = .returned (.int .i64 e) ∧ w' = w := by
  go_enter Tryd.func13, Tryd.ntmps13
  go_wp2
  go_ret
  exact ⟨rfl, rfl⟩

theorem job_one {w : World} {h : Nat} {a : Option Addr} {n cap : Nat} {code : List (Int × Int)} (hrow : w.heap[h]? = some (.cells [.string fnm, .int .i64 0, .int .i64 0, .slice a n cap].toArray 43 (0, 0))) (hn : code.length = n) (hr : Reads w a (insV code)) :
    JobR w (oneJ h) [.slice a n cap] (oneF code) [] :=
  ⟨rfl, Nat.le_refl _, rfl, .inr ⟨h, 0, rfl, lt_row hrow, fun j hj i v hv => by
      have hj0 : j = 0 := by simp [frs, oneF] at hj; omega
      subst hj0
      rw [show 0 + 0 * 4 + i = i by omega]
      exact cell_row hrow hv⟩, fun i h h' => by
        have hi : i = 0 := by simp at h; omega
        subst hi
        exact ⟨a, cap, by simp [oneF, hn], by simpa [oneF] using hr⟩, rfl, .inl rfl⟩

theorem one_check {w : World} {h : Nat} {a : Option Addr} {n cap : Nat} (code : List (Int × Int)) (hrow : w.heap[h]? = some (.cells [.string fnm, .int .i64 0, .int .i64 0, .slice a n cap].toArray 43 (0, 0))) (hn : code.length = n) (hr : Reads w a (insV code)) (hE : Env w) (hb : n ≤ 9223372036854775807) :
    Calls Tryd.prog 11 #[.agg (oneJ h).cells] w (CheckPost w (oneL code)) :=
  check_any (oneJ h) _ (oneF code) [] w (job_one hrow hn hr) hE (by simp [oneF]) (fun f hf => by
    simp [oneF] at hf
    subst hf
    exact ⟨by show code.length ≤ _; omega, by show fnm.size < _; decide⟩)

/-- The depths that Depths answers. -/
def depsOf (fs : List Fun) (main : Int) (na : Nat) (fuel tasks f : Int) : List Int :=
  if (checkL fs main na fuel tasks).2.2 = 0 ∧ hasB fs.length f = true then
    match fs[f.toNat]? with
    | some g => match depthsL (fs.map Fun.args) g.code with
      | .ok d => d
      | .error _ => []
    | none => []
  else []
theorem func_good {fs : List Fun} {k : Nat} {f : Fun} : ∀ {l : List Fun} {s : Nat}, checkFrom fs s l = (0, 0, 0) → l[k]? = some f → (funcErr fs (s + k) f).2 = 0 := by
  intro l
  induction l generalizing k with
  | nil => intro s h1 h2; simp at h2
  | cons g r ih =>
    intro s h1 h2
    rw [checkFrom] at h1
    split at h1
    · rename_i hz
      cases k with
      | zero => simp at h2; subst h2; simpa using hz
      | succ k =>
        have := ih h1 (by simpa using h2)
        rwa [show s + 1 + k = s + (k + 1) by omega] at this
    · rename_i hz
      simp at h1
      exact absurd h1.2.2 hz
theorem func_parts {fs : List Fun} {k : Nat} {f : Fun} (h : (funcErr fs k f).2 = 0) : headErr fs k f = 0 ∧ ∃ d, depthsL (fs.map Fun.args) f.code = .ok d := by
  unfold funcErr at h
  split at h
  · rename_i h1; exact absurd h h1
  · rename_i h1
    split at h
    · rename_i h2; exact absurd h h2
    · refine ⟨by simpa using h1, ?_⟩
      cases hd : depthsL (fs.map Fun.args) f.code with
      | ok d => exact ⟨d, rfl⟩
      | error q => rw [hd] at h; exact absurd h (depthsL_ne hd)
theorem head_parts {fs : List Fun} {k : Nat} {f : Fun} (h : headErr fs k f = 0) : inB f.code.length 1 256 = true := by
  unfold headErr at h
  split at h
  · cases h
  · split at h
    · cases h
    · split at h
      · cases h
      · split at h
        · cases h
        · rename_i h4; simpa using h4
theorem check_good {fs : List Fun} {main : Int} {na : Nat} {fuel tasks : Int} (h : (checkL fs main na fuel tasks).2.2 = 0) : checkL fs main na fuel tasks = (0, 0, 0) ∧ checkFrom fs 0 fs = (0, 0, 0) := by
  unfold checkL at h ⊢
  split at h
  · rename_i hj
    rw [if_pos hj]
    have : ∀ (l : List Fun) (k : Nat), (checkFrom fs k l).2.2 = 0 → checkFrom fs k l = (0, 0, 0) := by
      intro l
      induction l with
      | nil => intro k _; rfl
      | cons g r ih =>
        intro k hk
        rw [checkFrom] at hk ⊢
        split at hk
        · rename_i hz; rw [if_pos hz]; exact ih _ hk
        · rename_i hz; exact absurd hk hz
    exact ⟨this fs 0 h, this fs 0 h⟩
  · rename_i hj; exact absurd h hj
theorem deps_at {fs : List Fun} {main : Int} {na : Nat} {fuel tasks : Int} {k : Nat} {f : Fun} (h : (checkL fs main na fuel tasks).2.2 = 0) (hk : fs[k]? = some f) : (1 ≤ f.code.length ∧ f.code.length ≤ 256) ∧ ∃ d, depthsL (fs.map Fun.args) f.code = .ok d ∧ depsOf fs main na fuel tasks (k : Int) = d := by
  have hg := func_good (check_good h).2 hk
  rw [Nat.zero_add] at hg
  obtain ⟨h1, d, hd⟩ := func_parts hg
  have h2 := head_parts h1
  simp [inB] at h2
  refine ⟨by omega, d, hd, ?_⟩
  have hlt : k < fs.length := by
    rcases Nat.lt_or_ge k fs.length with h | h
    · exact h
    · rw [List.getElem?_eq_none h] at hk; cases hk
  unfold depsOf
  rw [if_pos ⟨h, by simp [hasB, inB]; omega⟩]
  simp [hk, hd]

def DepsPost (w : World) (D : List Int) (r : Ending) (w' : World) : Prop := ∃ a cap, r = .returned (.slice a D.length cap) ∧ Reads w' a (iV D) ∧ Below w.heap.size w w'

set_option maxRecDepth 100000 in
set_option maxHeartbeats 1000000 in
theorem deps_any (j : JV) (cs : List Value) (fs : List Fun) (args : List Int) (f : Int) (w : World) (hJ : JobR w j cs fs args) (hE : Env w) (hf : fs.length ≤ 9223372036854775807) (hs : ∀ f ∈ fs, f.code.length ≤ 9223372036854775807 ∧ f.name.size < 9223372036854775808) :
    Calls Tryd.prog 15 #[.agg j.cells, .int .i64 f] w (DepsPost w (depsOf fs j.main args.length j.fuel j.tasks f)) := by
  have hb0 := alloc_below w (.cells j.cells 25)
  have hbx0 : (w.alloc (.cells j.cells 25)).heap[w.heap.size]? = some (.cells j.cells.toList.toArray 25 (0, 0)) := by
    have := heap_alloc_new w (.cells j.cells 25)
    simpa using this
  have C11 := check_any j cs fs args _ (hJ.below hb0) (hE.below hb0) hf hs
  unfold CheckPost at C11
  have HJ := hide (fun (W : World) (hb : Below w.heap.size w W) => hJ.below hb)
  have HEN := hide (fun (W : World) (hb : Below w.heap.size w W) => hE.below hb)
  have H24 := hide (fun (k : Nat) (W : World) (hk : k < fs.length) (hb : Below w.heap.size w W) => newWalk_any j cs fs args k W (hJ.below hb) hk)
  have HDA := hide (fun (k : Nat) (g : Fun) (h : (checkL fs j.main args.length j.fuel j.tasks).2.2 = 0) (hk : fs[k]? = some g) => deps_at h hk)
  have HDE := hide (show depsOf fs j.main args.length j.fuel j.tasks f = (if (checkL fs j.main args.length j.fuel j.tasks).2.2 = 0 ∧ hasB fs.length f = true then (match fs[f.toNat]? with | some g => (match depthsL (fs.map Fun.args) g.code with | .ok d => d | .error _ => []) | none => []) else []) from rfl)
  have HG := hide (fun (h : (checkL fs j.main args.length j.fuel j.tasks).2.2 = 0) => (check_good h).1)
  have hnf := hJ.nf
  generalize checkL fs j.main args.length j.fuel j.tasks = q at C11 HDE HDA HG
  clear hJ hE hs
  obtain ⟨q0, q1, q2⟩ := q
  simp only [] at C11
  rw [← hnf] at HDE hf
  have HNF := hide hnf
  clear hnf
  have CH := fun w => has_any (j.nf : Int) f (by omega) w
  by_cases hq : q2 = 0
  · subst hq
    cases hh : hasB (j.nf : Int) f with
    | false =>
      have HD := hide (show depsOf fs j.main args.length j.fuel j.tasks f = [] by rw [HDE.out, if_neg (by rw [hh]; simp)])
      rw [hh] at CH
      generalize depsOf fs j.main args.length j.fuel j.tasks f = D at HD ⊢
      clear HDE HDA
      obtain ⟨fa, nf, fc, mn, aa, na, ac, fu, ta⟩ := j
      simp only [JV.cells] at *
      go_enter Tryd.func15, Tryd.ntmps15
      go_wp2_with (first
        | (go_at_call 11; go_must (with_reducible refine C11.mono ?_; (rintro e w1 ⟨rfl, hb1⟩); have hbx1 := heap_row hbx0 hb1; have j0 := cell_row (i := 0) hbx1 rfl))
        | (go_at_call 23; go_must (with_reducible refine (CH _).mono ?_; (rintro e w2 ⟨rfl, hw2⟩); subst hw2)))
      go_ret
      exact ⟨none, 0, by rw [HD.out]; rfl, .inl (by rw [HD.out]; rfl), chain hb0 hb1⟩
    | true =>
      obtain ⟨k, rfl, hk⟩ := hasB_nat hh
      have hkf : k < fs.length := by rw [← HNF.out]; exact hk
      obtain ⟨hcl, d, hd, hD⟩ := HDA.out k fs[k] rfl (List.getElem?_eq_getElem hkf)
      rw [hh] at CH
      have HD := hide hD
      have HDD := hide hd
      clear hh HDE HDA hD hd
      have HTR := hide (fun (W : World) (hb : Below w.heap.size w W) (ca : Option Addr) (n cc : Nat) (hc : cs[k]? = some (.slice ca n cc)) => (And.intro (HEN.out W hb).tab (And.intro (HJ.out W hb).areads ((HJ.out W hb).code_reads hkf hc))))
      have H24k := hide (fun W hb => H24.out k W hkf hb)
      clear HJ HEN H24
      generalize fs[k] = g at *
      generalize depsOf fs j.main args.length j.fuel j.tasks (k : Int) = D at HD ⊢
      obtain ⟨fa, nf, fc, mn, aa, na, ac, fu, ta⟩ := j
      simp only [JV.cells] at *
      go_enter Tryd.func15, Tryd.ntmps15
      go_wp2_with (first
        | (go_at_call 11; go_must (with_reducible refine C11.mono ?_; (rintro e w1 ⟨rfl, hb1⟩); have hbx1 := heap_row hbx0 hb1; have j0 := cell_row (i := 0) hbx1 rfl; have j1 := cell_row (i := 1) hbx1 rfl; have j2 := cell_row (i := 2) hbx1 rfl; have j3 := cell_row (i := 3) hbx1 rfl; have j4 := cell_row (i := 4) hbx1 rfl))
        | (go_at_call 23; go_must (with_reducible refine (CH _).mono ?_; (rintro e w2 ⟨rfl, hw2⟩); replace hw2 := hw2.symm; subst hw2))
        | (go_at_call 24; refine Hid.out ?_))
      refine Lib.hid ?_
      have hb01 := chain hb0 hb1
      refine (H24k.out w1 hb01).mono ?_
      rintro e w3 ⟨rfl, ⟨ca, cc, hA, hc⟩, hb3⟩
      have hb03 := chain hb01 hb3
      have hle := hb01.size
      have C25 := depths_any w.heap.size (w1.heap.size + 1) _ g.code (fs.map Fun.args) w3 hA rfl (by omega) hb03.size hcl.1 (by have := hcl.2; show g.code.length ≤ 1000000000; omega) rfl (by rw [List.length_map]; exact HNF.out.symm) (fun W hW => HTR.out W (hb03.trans hW) ca _ cc hc)
      unfold DepPost at C25
      rw [HDD.out] at C25
      simp only [] at C25
      clear C11 CH hbx1 j0 j1 j2 j3 j4 H24k HTR hbx0 hb0 hb1
      go_wp2_with (go_at_call 25; go_must (with_reducible refine C25.mono ?_; (rintro e w4 ⟨hb4, rfl, x, p, low, gg, hxb, hDp⟩); refine Hid.out ?_))
      refine Lib.hid ?_
      obtain ⟨_, _, _, _, c7, _, _, _⟩ := hDp.cells
      rw [hxb] at c7
      have HDP := hide hDp
      have HB4 := hide (hb03.trans hb4)
      clear C25 hDp
      go_wp2
      go_ret
      refine ⟨some ⟨x.g1, 0, none⟩, x.n, ?_, ?_, HB4.out⟩
      · rw [HD.out, HDP.out.dl]; rfl
      · rw [HD.out]
        exact .inr ⟨x.g1, 0, rfl, fun i u hu => by rw [Nat.zero_add]; exact cell_row HDP.out.dep hu⟩
  · have HD := hide (show depsOf fs j.main args.length j.fuel j.tasks f = [] by rw [HDE.out, if_neg (by simp [hq])])
    have hq' : (q2 != 0) = true := by simp [hq]
    generalize depsOf fs j.main args.length j.fuel j.tasks f = D at HD ⊢
    clear HDE HDA HG hq
    obtain ⟨fa, nf, fc, mn, aa, na, ac, fu, ta⟩ := j
    simp only [JV.cells] at *
    go_enter Tryd.func15, Tryd.ntmps15
    go_wp2_with (go_at_call 11; go_must (with_reducible refine C11.mono ?_; (rintro e w1 ⟨rfl, hb1⟩)))
    go_ret
    exact ⟨none, 0, by rw [HD.out]; rfl, .inl (by rw [HD.out]; rfl), chain hb0 hb1⟩

set_option maxRecDepth 100000 in
set_option maxHeartbeats 2000000 in
theorem alive_any (w : World) (hE : Env w) : Calls Tryd.prog 9 #[] w fun r w' => r = .returned (.bool true) ∧ Below w.heap.size w w' := by
  have L1 : oneL [(7, 0)] = (0, 0, 12) := by decide +kernel
  have L2 : oneL [(1, 5), (18, 0)] = (0, 0, 0) := by decide +kernel
  have hb1 := alloc_below w (.cells #[.int .i64 7, .int .i64 0] 39)
  have r1 : Reads (w.alloc (.cells #[.int .i64 7, .int .i64 0] 39)) (some ⟨w.heap.size, 0, none⟩) (insV [(7, 0)]) := reads_new w _ _
  have C1 := one_any (some ⟨w.heap.size, 0, none⟩) 1 1 (w.alloc (.cells #[.int .i64 7, .int .i64 0] 39))
  unfold OnePost at C1
  go_enter Tryd.func9, Tryd.ntmps9
  go_wp2_with (go_at_call 17; go_must (with_reducible refine C1.mono ?_; (rintro e w1 ⟨h1, rfl, hrow1, hb2⟩); refine Hid.out ?_))
  refine Lib.hid ?_
  have hb02 := chain hb1 hb2
  have C2 := one_check [(7, 0)] hrow1 rfl (r1.below hb2) (hE.below hb02) (by omega)
  rw [L1] at C2
  unfold CheckPost at C2
  simp only [oneJ, JV.cells] at C2 ⊢
  clear C1 hrow1 r1 hb1 hb2
  go_wp2_with (first
    | (go_at_call 11; go_must (with_reducible refine C2.mono ?_; (rintro e w2 ⟨rfl, hb3⟩)))
    | (go_at_call 17; refine Hid.out ?_))
  refine Lib.hid ?_
  have hb03 := chain hb02 hb3
  clear C2 hb3 hb02
  have hb4 := alloc_below w2 (.cells #[.int .i64 1, .int .i64 5, .int .i64 18, .int .i64 0] 39)
  have r2 : Reads (w2.alloc (.cells #[.int .i64 1, .int .i64 5, .int .i64 18, .int .i64 0] 39)) (some ⟨w2.heap.size, 0, none⟩) (insV [(1, 5), (18, 0)]) := reads_new w2 _ _
  have C1 := one_any (some ⟨w2.heap.size, 0, none⟩) 2 2 (w2.alloc (.cells #[.int .i64 1, .int .i64 5, .int .i64 18, .int .i64 0] 39))
  unfold OnePost at C1
  refine C1.mono ?_
  rintro e w4 ⟨h4, rfl, hrow4, hb5⟩
  have hb05 := chain (chain hb03 hb4) hb5
  have C2 := one_check [(1, 5), (18, 0)] hrow4 rfl (r2.below hb5) (hE.below hb05) (by omega)
  rw [L2] at C2
  unfold CheckPost at C2
  simp only [oneJ, JV.cells] at C2 ⊢
  clear C1 hrow4 r2 hb4 hb5
  go_wp2_with (first
    | (go_at_call 11; go_must (with_reducible refine C2.mono ?_; (rintro e w6 ⟨rfl, hb6⟩)))
    | (go_at_call 13; go_must (with_reducible refine (num_any _ _).mono ?_; (rintro e w7 ⟨rfl, hw7⟩); replace hw7 := hw7.symm; subst hw7)))
  go_ret
  exact ⟨rfl, chain hb05 hb6⟩
end Go.Proofs.YtfdgkeljnmamiaaDoor
