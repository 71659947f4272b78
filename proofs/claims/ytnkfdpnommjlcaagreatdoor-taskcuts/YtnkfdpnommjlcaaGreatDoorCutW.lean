/- TaskCuts: the walk. -/
import Derived.Test.YtnkfdpnommjlcaaGreatDoorCutQ
import Derived.Test.YtnkfdpnommjlcaaGreatDoorBegX
import Derived.Test.YtnkfdpnommjlcaaGreatDoorSae
import Derived.Test.YtnkfdpnommjlcaaGreatDoorRnm
namespace Go.Proofs.YtnkfdpnommjlcaaGreatDoor
open Go.RowKit Go.ChangeShapes Go.WideShapes Go.ChangeAt Go.Deep

/-- The job's function, as the law runs it. -/
structure CJob (w : World) (fa : Option Addr) (nf fc : Nat) (mn : Int) (aa : Option Addr) (na ac : Nat) (fu ta : Int) (cs : List Value) (fs : List Fun) (args : List Int) (k : Nat) (f : Fun) (d : List Int) : Prop where
  job : JobR w ⟨fa, nf, fc, mn, aa, na, ac, fu, ta⟩ cs fs args
  env : Env w
  hf : fs.length ≤ 9223372036854775807
  hs : ∀ f ∈ fs, f.code.length ≤ 9223372036854775807 ∧ f.name.size < 9223372036854775808
  ok : (checkL fs mn args.length fu ta).2.2 = 0
  fn : fs[k]? = some f
  dep : depsOf fs mn args.length fu ta (k : Int) = d
  code : Code fs f d
  fuel : 0 ≤ fu ∧ fu ≤ 5000
theorem CJob.below {w w' : World} {fa : Option Addr} {nf fc : Nat} {mn : Int} {aa : Option Addr} {na ac : Nat} {fu ta : Int} {cs : List Value} {fs : List Fun} {args : List Int} {k : Nat} {f : Fun} {d : List Int} (h : CJob w fa nf fc mn aa na ac fu ta cs fs args k f d) (hb : Below w.heap.size w w') : CJob w' fa nf fc mn aa na ac fu ta cs fs args k f d :=
  ⟨h.job.below hb, h.env.below hb, h.hf, h.hs, h.ok, h.fn, h.dep, h.code, h.fuel⟩

/-- What a run's answer has in memory. -/
structure SMem (W : World) (s : PM) (sa : Option Addr) (sc : Nat) (la : Option Addr) (lc : Nat) : Prop where
  r1 : Reads W sa (iV s.sk.reverse)
  r2 : Reads W la (iV s.lo)
  n1 : sa = none → s.sk.length = 0 ∧ sc = 0
  n2 : la = none → s.lo.length = 0 ∧ lc = 0
theorem SMem.below {W W' : World} {s : PM} {sa : Option Addr} {sc : Nat} {la : Option Addr} {lc : Nat} (h : SMem W s sa sc la lc) (hb : Below W.heap.size W W') : SMem W' s sa sc la lc := ⟨h.r1.below hb, h.r2.below hb, h.n1, h.n2⟩

/-- A small run. -/
theorem cut_run {w : World} {fa : Option Addr} {nf fc : Nat} {mn : Int} {aa : Option Addr} {na ac : Nat} {fu ta : Int} {cs : List Value} {fs : List Fun} {args : List Int} {k : Nat} {f : Fun} {d : List Int} (h : CJob w fa nf fc mn aa na ac fu ta cs fs args k f d) {P : PM} (hfn : P.fn = k) (hfit : Fit fs f d P) (hwt : P.wt = false) (hev : P = ⟨P.fn, P.pc, P.fu, P.sk, P.lo, P.kd, P.wt, 0, 0, 0, 0, [], 0, 0⟩) (hfu : (P.fu : Int) ≤ fu)
    {sa : Option Addr} {sc : Nat} {la : Option Addr} {lc : Nat} (hm : SMem w P sa sc la lc) (n : Nat) (q : PM × Option (Int × Int)) (steps : Int) (hR : runW fs fu 0 steps n P = some q) :
    Calls Tryz.prog 10 #[.agg #[.slice fa nf fc, .int .i64 mn, .slice aa na ac, .int .i64 fu, .int .i64 ta], .agg #[.int .i64 (P.fn : Int), .int .i64 (P.pc : Int), .int .i64 (P.fu : Int), .slice sa P.sk.length sc, .slice la P.lo.length lc, .int .i64 P.kd, .bool P.wt], .int .i64 0, .int .i64 steps] w (RunQ w (finM q)) := by
  obtain ⟨h1, h2, h3⟩ := hfit.pcl h.code
  have hlo := hfit.lo
  have hcl := h.code.lo
  have hcn := h.code.n1
  have hdl := h.code.dl
  rw [hev] at hR
  rw [hwt] at hR ⊢
  exact run_Q ⟨fa, nf, fc, mn, aa, na, ac, fu, ta⟩ cs fs args P.fn P.pc P.fu P.kd 0 steps false sa la sc lc P.sk P.lo d f q n w h.job h.env h.hf h.hs (by rw [hfn]; exact h.dep) hfit.pc hfit.fn hlo hfit.kd hfu (by omega) hm.r1 hm.r2 hm.n1 hm.n2 (by omega) (by omega) (fun e => by cases e) hR
theorem cut_may {w : World} {fa : Option Addr} {nf fc : Nat} {mn : Int} {aa : Option Addr} {na ac : Nat} {fu ta : Int} {cs : List Value} {fs : List Fun} {args : List Int} {k : Nat} {f : Fun} {d : List Int} (h : CJob w fa nf fc mn aa na ac fu ta cs fs args k f d) {P : PM} (hfn : P.fn = k) (hfit : Fit fs f d P) (hwt : P.wt = false) (hfu : (P.fu : Int) ≤ fu)
    {sa : Option Addr} {sc : Nat} {la : Option Addr} {lc : Nat} (hm : SMem w P sa sc la lc) :
    Calls Tryz.prog 11 #[.agg #[.slice fa nf fc, .int .i64 mn, .slice aa na ac, .int .i64 fu, .int .i64 ta], .agg #[.int .i64 (P.fn : Int), .int .i64 (P.pc : Int), .int .i64 (P.fu : Int), .slice sa P.sk.length sc, .slice la P.lo.length lc, .int .i64 P.kd, .bool P.wt]] w fun e w' => e = .returned (.bool true) ∧ Below w.heap.size w w' := by
  obtain ⟨h1, h2, h3⟩ := hfit.pcl h.code
  have hcn := h.code.n1
  have hdl := h.code.dl
  have C := may_yes2 ⟨fa, nf, fc, mn, aa, na, ac, fu, ta⟩ cs fs args P.fn P.pc (P.fu : Int) P.kd P.wt sa la sc lc P.sk.reverse P.lo d f w h.job h.env hm.r1 h.hf h.hs (by rw [hfn]; exact h.dep) (by rw [List.length_reverse]; exact hfit.pc) hfit.fn hfit.lo hfit.kd ⟨by omega, hfu⟩ (by omega) (by rw [List.length_reverse]; omega) (fun e => by rw [hwt] at e; cases e)
  rw [List.length_reverse] at C
  exact C

/-- One look at 63. -/
theorem mask63 (n : Int) : bits .and .i64 n 63 = n % 64 := by
  have h1 : (BitVec.ofInt 64 ((63 : Nat) : Int)).toNat = 2 ^ 6 - 1 := by decide
  have key : (BitVec.ofInt 64 n &&& BitVec.ofInt 64 ((63 : Nat) : Int)).toNat = (n % ((2 ^ 64 : Nat) : Int)).toNat % 2 ^ 6 := by
    rw [BitVec.toNat_and, BitVec.toNat_ofInt, h1, Nat.and_two_pow_sub_one_eq_mod]
  show IntKind.i64.wrap ((BitVec.ofInt 64 n &&& BitVec.ofInt 64 ((63 : Nat) : Int)).toNat : Nat) = _
  have h2 : (((n % ((2 ^ 64 : Nat) : Int)).toNat % 2 ^ 6 : Nat) : Int) = n % 64 := by
    rw [Int.natCast_emod, Int.toNat_of_nonneg (Int.emod_nonneg _ (by decide))]
    exact Int.emod_emod_of_dvd n (by decide)
  rw [key, IntKind.wrap_i64, h2]
  omega

/-- The loop of the law, in memory. -/
structure CInv (w : World) (b0 b1 b2 : Nat) (jc : List Value) (fs : List Fun) (f : Fun) (d : List Int) (jf : Int) (k0 : Nat) (Q : PM × Option (Int × Int)) (ta : Option Addr) (tc : Nat) (ma : Option Addr) (mc : Nat) (ea : Option Addr) (ec : Nat) (wr : World) (k T : Nat) (P : PM) (sa : Option Addr) (sc : Nat) (la : Option Addr) (lc : Nat) : Prop where
  bel : Below w.heap.size w wr
  ch : Chain fs f d jf Q P T
  fn : P.fn = k0
  kT : k ≤ T + 100
  bs : w.heap.size < b0 ∧ w.heap.size < b1 ∧ w.heap.size < b2 ∧ b0 ≠ b1 ∧ b0 ≠ b2
  job : wr.heap[w.heap.size]? = some (.cells jc.toArray 25 (0, 0))
  st : wr.heap[b0]? = some (.cells [.int .i64 (P.fn : Int), .int .i64 (P.pc : Int), .int .i64 (P.fu : Int), .slice sa P.sk.length sc, .slice la P.lo.length lc, .int .i64 P.kd, .bool P.wt].toArray 29 (0, 0))
  ws : wr.heap[b1]? = some (.cells [.int .i64 ((finM Q).fn : Int), .int .i64 ((finM Q).pc : Int), .int .i64 ((finM Q).fu : Int), .slice ta (finM Q).sk.length tc, .slice ma (finM Q).lo.length mc, .int .i64 (finM Q).kd, .bool (finM Q).wt].toArray 29 (0, 0))
  we : wr.heap[b2]? = some (.cells [.int .i64 (finM Q).ek, .int .i64 (finM Q).ef, .int .i64 (finM Q).ei, .int .i64 ((finM Q).es : Int), .slice ea (finM Q).ar.length ec, .int .i64 (finM Q).er, .int .i64 (finM Q).ev].toArray 37 (0, 0))
  sm : SMem wr P sa sc la lc
  wm : SMem wr (finM Q) ta tc ma mc
  wa : Reads wr ea (iV (finM Q).ar)
  ne : (∀ x, sa = some x → x.block ≠ b0) ∧ (∀ x, la = some x → x.block ≠ b0) ∧ (∀ x, ta = some x → x.block ≠ b0) ∧ (∀ x, ma = some x → x.block ≠ b0) ∧ (∀ x, ea = some x → x.block ≠ b0)
end Go.Proofs.YtnkfdpnommjlcaaGreatDoor
namespace Go.Proofs.YtnkfdpnommjlcaaGreatDoor
open Go.RowKit Go.ChangeShapes Go.WideShapes Go.ChangeAt Go.Deep

theorem two_newW (w : World) (a b : Obj) : ((w.alloc a).alloc b).heap[w.heap.size]? = some a ∧ ((w.alloc a).alloc b).heap[w.heap.size + 1]? = some b ∧ Below w.heap.size w ((w.alloc a).alloc b) := by
  refine ⟨by rw [heap_alloc_old _ _ (by simp), heap_alloc_new], ?_, ((Below.refl _ _).alloc (Nat.le_refl _) _).alloc (by simp) _⟩
  have := heap_alloc_new (w.alloc a) b
  simpa using this
theorem runM_es {fs : List Fun} {jf deep steps : Int} : ∀ (N : Nat) (s : PM) (q : PM × Option (Int × Int)), runM fs jf deep steps N s = some q → q.1.es ≤ s.es + N
  | 0, s, q, h => by
    rw [runM] at h
    split at h
    · cases h
    · cases h; simp
  | N + 1, s, q, h => by
    by_cases hg : s.ek = 0 ∧ (s.es : Int) < steps
    · cases hst : stepM fs jf deep s with
      | none => rw [runM, if_pos hg, hst] at h; cases h
      | some p =>
        obtain ⟨t, u⟩ := p
        have h1 := stepM_es hst
        cases u with
        | none =>
          rw [runM_go hg hst] at h
          have := runM_es N t q h
          simp only at h1
          omega
        | some u =>
          rw [runM_up hg hst] at h
          cases h
          simp only at h1 ⊢
          omega
    · rw [runM_stop (by omega)] at h
      cases h
      simp only
      omega
theorem finM_es (q : PM × Option (Int × Int)) : (finM q).es = q.1.es := by
  obtain ⟨t, u⟩ := q
  cases u with
  | none => rfl
  | some u => obtain ⟨a, b⟩ := u; rfl
theorem fuel_of {fs : List Fun} {mn : Int} {na : Nat} {fu ta : Int} (h : (checkL fs mn na fu ta).2.2 = 0) : 0 ≤ fu ∧ fu ≤ 5000 := by
  unfold checkL at h
  split at h
  · rename_i hj
    unfold jobErr at hj
    split at hj
    · cases hj
    · split at hj
      · cases hj
      · split at hj
        · cases hj
        · rename_i hb
          simp [inB] at hb
          omega
  · rename_i hj
    exact absurd h hj
def PM.Len (s : PM) : Prop := s.sk.length ≤ 10001 ∧ s.lo.length ≤ 10001 ∧ s.ar.length ≤ 10001
theorem plL_len {op n : Int} {sk sk' : List Int} (h : plL op n sk = some (some sk')) : sk'.length ≤ sk.length + 1 := by
  unfold plL at h
  rcases sk with _ | ⟨y, _ | ⟨x, r⟩⟩
  all_goals (try dsimp only at h)
  all_goals (repeat' split at h)
  all_goals first
    | (cases h; done)
    | (simp only [Option.some.injEq] at h; subst h; simp; done)
    | (simp only [Option.some.injEq, Option.map_eq_some_iff] at h; obtain ⟨v, -, rfl⟩ := h; simp; done)
    | (simp only [Option.some.injEq, Option.map_eq_some_iff] at h; obtain ⟨v, -, rfl⟩ := h; simp; omega)
theorem doM_len {fs : List Fun} {deep : Int} {s : PM} {op n : Int} {q : PM × Option (Int × Int)} (h : doM fs deep s op n = some q) (h1 : s.sk.length ≤ 10000) (h2 : s.lo.length ≤ 10001) (h3 : s.ar.length ≤ 10001) : q.1.Len := by
  unfold doM at h
  repeat' split at h
  all_goals first
    | (cases h; done)
    | (simp only [Option.some.injEq] at h; subst h; unfold PM.Len; simp_all; done)
    | (simp only [Option.some.injEq] at h; subst h; unfold PM.Len; simp_all; omega)
    | (simp only [Option.some.injEq] at h; subst h; rename_i hp; have hl := plL_len hp; unfold PM.Len; simp only; omega)
theorem stepM_len {fs : List Fun} {jf deep : Int} {s : PM} {q : PM × Option (Int × Int)} (h : stepM fs jf deep s = some q) (hs : s.Len) : q.1.Len := by
  unfold stepM at h
  obtain ⟨h1, h2, h3⟩ := hs
  split at h
  · split at h
    · rename_i hsm
      obtain ⟨-, -, -, hsk, -, -, hlo⟩ := hsm
      split at h
      · split at h
        · exact doM_len h hsk h2 h3
        · cases h
      · cases h
    · cases h
  · cases h
    exact ⟨h1, h2, h3⟩
theorem runM_len {fs : List Fun} {jf deep steps : Int} : ∀ (N : Nat) (s : PM) (q : PM × Option (Int × Int)), runM fs jf deep steps N s = some q → s.Len → q.1.Len
  | 0, s, q, h, hs => by
    rw [runM] at h
    split at h
    · cases h
    · cases h; exact hs
  | N + 1, s, q, h, hs => by
    by_cases hg : s.ek = 0 ∧ (s.es : Int) < steps
    · cases hst : stepM fs jf deep s with
      | none => rw [runM, if_pos hg, hst] at h; cases h
      | some p =>
        obtain ⟨t, u⟩ := p
        have h1 := stepM_len hst hs
        cases u with
        | none =>
          rw [runM_go hg hst] at h
          exact runM_len N t q h h1
        | some u =>
          rw [runM_up hg hst] at h
          cases h
          exact h1
    · rw [runM_stop (by omega)] at h
      cases h
      exact hs
theorem finM_len {q : PM × Option (Int × Int)} (h : q.1.Len) : (finM q).Len := by
  obtain ⟨t, u⟩ := q
  cases u with
  | none => exact h
  | some u => obtain ⟨a, b⟩ := u; exact h
theorem doM_fn {fs : List Fun} {deep : Int} {s : PM} {op n : Int} {q : PM × Option (Int × Int)} (h : doM fs deep s op n = some q) : q.1.fn = s.fn := by
  unfold doM at h
  repeat' split at h
  all_goals first
    | (cases h; done)
    | (simp only [Option.some.injEq] at h; subst h; rfl)
theorem stepM_fn {fs : List Fun} {jf deep : Int} {s : PM} {q : PM × Option (Int × Int)} (h : stepM fs jf deep s = some q) : q.1.fn = s.fn := by
  unfold stepM at h
  repeat' split at h
  · have h2 := doM_fn h
    simpa using h2
  all_goals first
    | (cases h; done)
    | (cases h; rfl)
theorem runM_fn {fs : List Fun} {jf deep steps : Int} : ∀ (N : Nat) (s : PM) (q : PM × Option (Int × Int)), runM fs jf deep steps N s = some q → q.1.fn = s.fn
  | 0, s, q, h => by
    rw [runM] at h
    split at h
    · cases h
    · cases h; rfl
  | N + 1, s, q, h => by
    by_cases hg : s.ek = 0 ∧ (s.es : Int) < steps
    · cases hst : stepM fs jf deep s with
      | none => rw [runM, if_pos hg, hst] at h; cases h
      | some p =>
        obtain ⟨t, u⟩ := p
        have h1 := stepM_fn hst
        cases u with
        | none =>
          rw [runM_go hg hst] at h
          exact (runM_fn N t q h).trans h1
        | some u =>
          rw [runM_up hg hst] at h
          cases h
          exact h1
    · rw [runM_stop (by omega)] at h
      cases h; rfl
theorem run_fn {fs : List Fun} {jf deep steps : Int} {N : Nat} {s : PM} {q : PM × Option (Int × Int)} (h : runW fs jf deep steps N s = some q) (hw : s.wt = false) : (finM q).fn = s.fn := by
  unfold runW begM at h
  rw [if_neg (by rw [hw]; decide)] at h
  have := runM_fn N s q h
  obtain ⟨t, u⟩ := q
  cases u with
  | none => exact this
  | some u => obtain ⟨a, b⟩ := u; exact this
theorem len_ok {n : Nat} (h : n ≤ 10001) : n ≤ 9223372036854775807 := by omega
theorem kT_new {u T e : Nat} (h : u ≤ T + 100) (h2 : u < 100 ∨ 1 ≤ e) : u + 1 ≤ T + e + 100 := by omega
/-- A small run, by what its answer shows. -/
theorem chain_step2 {fs : List Fun} {f : Fun} {d : List Int} (hc : Code fs f d) {jf : Int} (hjf : jf ≤ 5000) {Q : PM × Option (Int × Int)} {P : PM} {T : Nat} (h : Chain fs f d jf Q P T) (n : Nat) (hn : n ≤ 63) :
    ∃ q, runW fs jf 0 n 6001 P = some q ∧ ((finM q).es ≤ 6001 ∧ (finM q).Len) ∧
      (((finM q).ek = 0 ∧ n ≤ (finM q).es ∧ Chain fs f d jf Q { finM q with es := 0 } (T + (finM q).es)) ∨ ((finM q).ek ≠ 0 ∧ finM Q = { finM q with es := T + (finM q).es })) := by
  obtain ⟨q, h1, h2⟩ := chain_step hc hjf h n hn
  refine ⟨q, h1, ?_, ?_⟩
  · rw [finM_es]
    unfold runW begM at h1
    rw [if_neg (by rw [h.wt]; decide)] at h1
    have h3 := runM_es 6001 P q h1
    have := h.es
    obtain ⟨p1, p2, p3⟩ := h.fit.pcl hc
    have p4 := h.fit.lo
    have p5 := hc.lo
    have p6 := h.ev.2.2.1
    exact ⟨by omega, finM_len (runM_len 6001 P q h1 ⟨by omega, by omega, by rw [p6]; simp⟩)⟩
  · rcases h2 with ⟨a, b, c, -, e⟩ | h2
    · left
      obtain ⟨t, u⟩ := q
      simp only at a
      subst a
      exact ⟨b, c, e⟩
    · exact .inr h2

theorem CInv.facts {w : World} {b0 b1 b2 : Nat} {jc : List Value} {fs : List Fun} {f : Fun} {d : List Int} {jf : Int} {k0 : Nat} {Q : PM × Option (Int × Int)} {ta : Option Addr} {tc : Nat} {ma : Option Addr} {mc : Nat} {ea : Option Addr} {ec : Nat} {wr : World} {k T : Nat} {P : PM} {sa : Option Addr} {sc : Nat} {la : Option Addr} {lc : Nat} (h : CInv w b0 b1 b2 jc fs f d jf k0 Q ta tc ma mc ea ec wr k T P sa sc la lc) :
    P.fu = T ∧ (T : Int) ≤ jf ∧ P = ⟨P.fn, P.pc, P.fu, P.sk, P.lo, P.kd, P.wt, 0, 0, 0, 0, [], 0, 0⟩ := by
  obtain ⟨v1, v2, v3, v4, v5⟩ := h.ch.ev
  have h1 := h.ch.fu
  have h2 := h.ch.le
  refine ⟨h1, by omega, ?_⟩
  have h3 := h.ch.ek
  have h4 := h.ch.es
  obtain ⟨fn, pc, fu, sk, lo, kd, wt, ek, ef, ei, es, ar, er, ev⟩ := P
  simp only at v1 v2 v3 v4 v5 h3 h4
  subst v1 v2 v3 v4 v5 h3 h4
  rfl

set_option maxHeartbeats 4000000 in
/-- The small run's answer is put where the state was. -/
theorem cut_put {w : World} {b0 b1 b2 : Nat} {jc : List Value} {fs : List Fun} {f : Fun} {d : List Int} {jf : Int} {k0 : Nat} {Q : PM × Option (Int × Int)} {ta : Option Addr} {tc : Nat} {ma : Option Addr} {mc : Nat} {ea : Option Addr} {ec : Nat} {wr : World} {k T : Nat} {P : PM} {sa : Option Addr} {sc : Nat} {la : Option Addr} {lc : Nat} (h : CInv w b0 b1 b2 jc fs f d jf k0 Q ta tc ma mc ea ec wr k T P sa sc la lc)
    {R : PM} {sa2 la2 ea2 : Option Addr} {sc2 lc2 ec2 : Nat} {w2 : World} (hb2 : Below wr.heap.size wr w2) (hm : SMem w2 R sa2 sc2 la2 lc2) (hr : Reads w2 ea2 (iV R.ar)) (hbk : (∀ x, sa2 = some x → wr.heap.size ≤ x.block) ∧ (∀ x, la2 = some x → wr.heap.size ≤ x.block) ∧ (∀ x, ea2 = some x → wr.heap.size ≤ x.block)) :
    ∀ w3, w3 = (w2.alloc (.cells #[.int .i64 (R.fn : Int), .int .i64 (R.pc : Int), .int .i64 (R.fu : Int), .slice sa2 R.sk.length sc2, .slice la2 R.lo.length lc2, .int .i64 R.kd, .bool R.wt] 29)).alloc (.cells #[.int .i64 R.ek, .int .i64 R.ef, .int .i64 R.ei, .int .i64 (R.es : Int), .slice ea2 R.ar.length ec2, .int .i64 R.er, .int .i64 R.ev] 37) → ∀ w4, w4 = w3.setCells b0 0 [.int .i64 (R.fn : Int), .int .i64 (R.pc : Int), .int .i64 (R.fu : Int), .slice sa2 R.sk.length sc2, .slice la2 R.lo.length lc2, .int .i64 R.kd, .bool R.wt] →
      (w3.heap[w2.heap.size]? = some (.cells [.int .i64 (R.fn : Int), .int .i64 (R.pc : Int), .int .i64 (R.fu : Int), .slice sa2 R.sk.length sc2, .slice la2 R.lo.length lc2, .int .i64 R.kd, .bool R.wt].toArray 29 (0, 0)) ∧ w3.heap[b0]? = some (.cells [.int .i64 (P.fn : Int), .int .i64 (P.pc : Int), .int .i64 (P.fu : Int), .slice sa P.sk.length sc, .slice la P.lo.length lc, .int .i64 P.kd, .bool P.wt].toArray 29 (0, 0)) ∧ b0 < w3.heap.size) ∧
      w4.heap[w2.heap.size + 1]? = some (.cells [.int .i64 R.ek, .int .i64 R.ef, .int .i64 R.ei, .int .i64 (R.es : Int), .slice ea2 R.ar.length ec2, .int .i64 R.er, .int .i64 R.ev].toArray 37 (0, 0)) ∧ Below w.heap.size w w4 ∧ w4.heap[w.heap.size]? = some (.cells jc.toArray 25 (0, 0)) ∧ w4.heap[b0]? = some (.cells [.int .i64 (R.fn : Int), .int .i64 (R.pc : Int), .int .i64 (R.fu : Int), .slice sa2 R.sk.length sc2, .slice la2 R.lo.length lc2, .int .i64 R.kd, .bool R.wt].toArray 29 (0, 0)) ∧
      w4.heap[b1]? = some (.cells [.int .i64 ((finM Q).fn : Int), .int .i64 ((finM Q).pc : Int), .int .i64 ((finM Q).fu : Int), .slice ta (finM Q).sk.length tc, .slice ma (finM Q).lo.length mc, .int .i64 (finM Q).kd, .bool (finM Q).wt].toArray 29 (0, 0)) ∧ w4.heap[b2]? = some (.cells [.int .i64 (finM Q).ek, .int .i64 (finM Q).ef, .int .i64 (finM Q).ei, .int .i64 ((finM Q).es : Int), .slice ea (finM Q).ar.length ec, .int .i64 (finM Q).er, .int .i64 (finM Q).ev].toArray 37 (0, 0)) ∧ SMem w4 R sa2 sc2 la2 lc2 ∧ SMem w4 (finM Q) ta tc ma mc ∧ Reads w4 ea (iV (finM Q).ar) ∧ Reads w4 ea2 (iV R.ar) ∧
      ((∀ x, sa2 = some x → x.block ≠ b0) ∧ (∀ x, la2 = some x → x.block ≠ b0) ∧ (∀ x, ta = some x → x.block ≠ b0) ∧ (∀ x, ma = some x → x.block ≠ b0) ∧ (∀ x, ea = some x → x.block ≠ b0)) ∧ w2.heap.size + 1 ≠ b2 ∧ w.heap.size < w2.heap.size := by
  rintro w3 rfl w4 rfl
  obtain ⟨a1, a2, a3, a4, a5⟩ := h.bs
  have l0 := lt_row h.st
  have l1 := lt_row h.ws
  have l2 := lt_row h.we
  have lj := lt_row h.job
  have hz := hb2.size
  obtain ⟨d1, d2, d3⟩ := two_newW w2 (.cells #[.int .i64 (R.fn : Int), .int .i64 (R.pc : Int), .int .i64 (R.fu : Int), .slice sa2 R.sk.length sc2, .slice la2 R.lo.length lc2, .int .i64 R.kd, .bool R.wt] 29) (.cells #[.int .i64 R.ek, .int .i64 R.ef, .int .i64 R.ei, .int .i64 (R.es : Int), .slice ea2 R.ar.length ec2, .int .i64 R.er, .int .i64 R.ev] 37)
  have hs3 : ((w2.alloc (.cells #[.int .i64 (R.fn : Int), .int .i64 (R.pc : Int), .int .i64 (R.fu : Int), .slice sa2 R.sk.length sc2, .slice la2 R.lo.length lc2, .int .i64 R.kd, .bool R.wt] 29)).alloc (.cells #[.int .i64 R.ek, .int .i64 R.ef, .int .i64 R.ei, .int .i64 (R.es : Int), .slice ea2 R.ar.length ec2, .int .i64 R.er, .int .i64 R.ev] 37)).heap.size = w2.heap.size + 2 := by simp
  generalize (w2.alloc (.cells #[.int .i64 (R.fn : Int), .int .i64 (R.pc : Int), .int .i64 (R.fu : Int), .slice sa2 R.sk.length sc2, .slice la2 R.lo.length lc2, .int .i64 R.kd, .bool R.wt] 29)).alloc (.cells #[.int .i64 R.ek, .int .i64 R.ef, .int .i64 R.ei, .int .i64 (R.es : Int), .slice ea2 R.ar.length ec2, .int .i64 R.er, .int .i64 R.ev] 37) = w3 at *
  have hb3 := chain hb2 d3
  have s3 := heap_row h.st hb3
  have e1 : sa2 = sa2 := rfl
  have nb : ∀ {x : Addr}, wr.heap.size ≤ x.block → x.block ≠ b0 := fun hx e => by omega
  refine ⟨⟨d1, s3, by omega⟩, ?_, setCells_below (by omega) _ _ (h.bel.trans (hb3.mono h.bel.size)), ?_, ?_, ?_, ?_, ?_, ?_, ?_, ?_, ⟨fun x hx => nb (hbk.1 x hx), fun x hx => nb (hbk.2.1 x hx), h.ne.2.2.1, h.ne.2.2.2.1, h.ne.2.2.2.2⟩, by omega, by omega⟩
  · rw [setCells_other (k := w2.heap.size + 1) (b := b0) (by omega)]; exact d2
  · rw [setCells_other (k := w.heap.size) (b := b0) (by omega)]; exact heap_row h.job hb3
  · exact setCells_row s3 rfl
  · rw [setCells_other (k := b1) (b := b0) (by omega)]; exact heap_row h.ws hb3
  · rw [setCells_other (k := b2) (b := b0) (by omega)]; exact heap_row h.we hb3
  · exact ⟨reads_setCells (hm.r1.below d3) (fun x hx => nb (hbk.1 x hx)) 0, reads_setCells (hm.r2.below d3) (fun x hx => nb (hbk.2.1 x hx)) 0, hm.n1, hm.n2⟩
  · have hm2 := h.wm.below hb3
    exact ⟨reads_setCells hm2.r1 h.ne.2.2.1 0, reads_setCells hm2.r2 h.ne.2.2.2.1 0, hm2.n1, hm2.n2⟩
  · exact reads_setCells (h.wa.below hb3) h.ne.2.2.2.2 0
  · exact reads_setCells (hr.below d3) (fun x hx => nb (hbk.2.2 x hx)) 0
theorem reads_far {w2 w : World} {a : Option Addr} {xs : List Value} {b : Nat} (h2 : Reads w2 a xs) (h : Reads w a xs) (hb : w2.heap.size ≤ b) (o : Nat) (vs : List Value) : Reads (w.setCells b o vs) a xs := by
  by_cases h0 : xs = []
  · exact .inl h0
  · refine reads_setCells h (fun x hx => ?_) o
    rcases h2 with h2 | ⟨k, off, e, hk⟩
    · exact absurd h2 h0
    · subst e
      cases hx
      have hp : 0 < xs.length := List.length_pos_iff.2 h0
      have := cell_some_lt (hk 0 _ (List.getElem?_eq_getElem hp))
      simp only at this ⊢
      omega
set_option maxHeartbeats 4000000 in
/-- The event's steps are written. -/
theorem cut_end {w : World} {b0 b1 b2 : Nat} {jc : List Value} {fs : List Fun} {f : Fun} {d : List Int} {jf : Int} {k0 : Nat} {Q : PM × Option (Int × Int)} {ta : Option Addr} {tc : Nat} {ma : Option Addr} {mc : Nat} {ea : Option Addr} {ec : Nat} {wr : World} {k T : Nat} {P : PM} {sa : Option Addr} {sc : Nat} {la : Option Addr} {lc : Nat} (h : CInv w b0 b1 b2 jc fs f d jf k0 Q ta tc ma mc ea ec wr k T P sa sc la lc)
    {R : PM} {sa2 la2 ea2 : Option Addr} {sc2 lc2 : Nat} {w2 : World} (hb2 : Below wr.heap.size wr w2) (hm : SMem w2 R sa2 sc2 la2 lc2) (hr : Reads w2 ea2 (iV R.ar)) {w4 : World} {rs rw re : List Value}
    (bel4 : Below w.heap.size w w4) (st4 : w4.heap[b0]? = some (.cells rs.toArray 29 (0, 0))) (ws4 : w4.heap[b1]? = some (.cells rw.toArray 29 (0, 0))) (we4 : w4.heap[b2]? = some (.cells re.toArray 37 (0, 0))) (sm4 : SMem w4 R sa2 sc2 la2 lc2) (wm4 : SMem w4 (finM Q) ta tc ma mc) (wa4 : Reads w4 ea (iV (finM Q).ar)) (ra4 : Reads w4 ea2 (iV R.ar)) (z : Value) :
    ∀ w5, w5 = w4.setCell ⟨w2.heap.size + 1, 3, none⟩ z → Below w.heap.size w w5 ∧ w5.heap[b0]? = some (.cells rs.toArray 29 (0, 0)) ∧ w5.heap[b1]? = some (.cells rw.toArray 29 (0, 0)) ∧ w5.heap[b2]? = some (.cells re.toArray 37 (0, 0)) ∧ SMem w5 R sa2 sc2 la2 lc2 ∧ SMem w5 (finM Q) ta tc ma mc ∧ Reads w5 ea (iV (finM Q).ar) ∧ Reads w5 ea2 (iV R.ar) := by
  have e : w4.setCell ⟨w2.heap.size + 1, 3, none⟩ z = w4.setCells (w2.heap.size + 1) 3 [z] := rfl
  rintro w5 rfl
  rw [e]
  have l0 := lt_row h.st
  have l1 := lt_row h.ws
  have l2 := lt_row h.we
  have lj := lt_row h.job
  have hz := hb2.size
  have hw := h.wm.below hb2
  refine ⟨setCells_below (by omega) _ _ bel4, ?_, ?_, ?_, ⟨reads_far hm.r1 sm4.r1 (by omega) _ _, reads_far hm.r2 sm4.r2 (by omega) _ _, sm4.n1, sm4.n2⟩, ⟨reads_far hw.r1 wm4.r1 (by omega) _ _, reads_far hw.r2 wm4.r2 (by omega) _ _, wm4.n1, wm4.n2⟩, reads_far (h.wa.below hb2) wa4 (by omega) _ _, reads_far hr ra4 (by omega) _ _⟩
  · rw [setCells_other (k := b0) (b := w2.heap.size + 1) (by omega)]; exact st4
  · rw [setCells_other (k := b1) (b := w2.heap.size + 1) (by omega)]; exact ws4
  · rw [setCells_other (k := b2) (b := w2.heap.size + 1) (by omega)]; exact we4
end Go.Proofs.YtnkfdpnommjlcaaGreatDoor
namespace Go.Proofs.YtnkfdpnommjlcaaGreatDoor
open Go.RowKit Go.ChangeShapes Go.WideShapes Go.ChangeAt Go.Deep

set_option linter.unusedSimpArgs false in
set_option linter.unusedVariables false in
set_option maxRecDepth 100000 in
set_option maxHeartbeats 16000000 in
theorem cuts_any (fa : Option Addr) (nf fc : Nat) (mn : Int) (aa : Option Addr) (na ac : Nat) (fu tk : Int) (cs : List Value) (fs : List Fun) (args : List Int) (f : Int) (xa : Option Addr) (xl xc : Nat) (xs : List Int) (ca : Option Addr) (cl cc : Nat) (cu : List Int) (w : World)
    (hJ : JobR w ⟨fa, nf, fc, mn, aa, na, ac, fu, tk⟩ cs fs args) (hE : Env w) (hn : nf ≤ 9223372036854775807) (hna : na ≤ 9223372036854775807) (hs : ∀ f ∈ fs, f.code.length ≤ 9223372036854775807 ∧ f.name.size ≤ 9223372036854775807)
    (hxl : xs.length = xl) (hxr : Reads w xa (iV xs)) (hcl : cu.length = cl) (hcr : Reads w ca (iV cu)) (hxM : xl ≤ 9223372036854775807) (hcM : cl ≤ 9223372036854775807) :
    Calls Tryz.prog 3 #[.agg #[.slice fa nf fc, .int .i64 mn, .slice aa na ac, .int .i64 fu, .int .i64 tk], .int .i64 f, .slice xa xl xc, .slice ca cl cc] w fun e w' => e = .returned (.bool true) ∧ Below w.heap.size w w' := by
  have hb1 := alloc_below w (.cells #[.slice fa nf fc, .int .i64 mn, .slice aa na ac, .int .i64 fu, .int .i64 tk] 25)
  have hr1 : (w.alloc (.cells #[.slice fa nf fc, .int .i64 mn, .slice aa na ac, .int .i64 fu, .int .i64 tk] 25)).heap[w.heap.size]? = some (.cells [.slice fa nf fc, .int .i64 mn, .slice aa na ac, .int .i64 fu, .int .i64 tk].toArray 25 (0, 0)) := heap_alloc_new w _
  have hJ1 := hJ.below hb1
  have hE1 := hE.below hb1
  have p0 := cell_row (i := 0) hr1 rfl
  have p1 := cell_row (i := 1) hr1 rfl
  have p2 := cell_row (i := 2) hr1 rfl
  have p3 := cell_row (i := 3) hr1 rfl
  have p4 := cell_row (i := 4) hr1 rfl
  have hl1 := lt_row hr1
  have AL := talive_any _ hE1
  have hnf : nf = fs.length := hJ.nf
  have hna' : na = args.length := hJ.na
  have HJ := hide (fun (W : World) (hb : Below w.heap.size w W) => (⟨hJ.below hb, hE.below hb⟩ : JobR W ⟨fa, nf, fc, mn, aa, na, ac, fu, tk⟩ cs fs args ∧ Env W))
  have HBIG := hide (fun (W : World) (hb : Below (w.alloc (.cells #[.slice fa nf fc, .int .i64 mn, .slice aa na ac, .int .i64 fu, .int .i64 tk] 25)).heap.size (w.alloc (.cells #[.slice fa nf fc, .int .i64 mn, .slice aa na ac, .int .i64 fu, .int .i64 tk] 25)) W) => show Calls Tryz.prog 7 #[.agg #[.slice fa nf fc, .int .i64 mn, .slice aa na ac, .int .i64 fu, .int .i64 tk]] W (fun e w' => ∃ bg, e = .returned (.bool bg) ∧ Below W.heap.size W w') from
    (big_any ⟨fa, nf, fc, mn, aa, na, ac, fu, tk⟩ cs fs args W (hJ1.below hb) (by omega) (by omega) hs).mono fun e w' h => by
      obtain ⟨bg, h1, h2, -⟩ := h
      exact ⟨bg, h1, h2⟩)
  have HXR := hide (fun (W : World) (hb : Below w.heap.size w W) => hxr.below hb)
  have HCR := hide (fun (W : World) (hb : Below w.heap.size w W) => hcr.below hb)
  have HSM := hide (fun g (hg : g ∈ fs) => (⟨(hs g hg).1, Nat.lt_succ_of_le (hs g hg).2⟩ : g.code.length ≤ 9223372036854775807 ∧ g.name.size < 9223372036854775808))
  have HNF := hide (show fs.length ≤ 9223372036854775807 by omega)
  have HR1 := hide hr1
  clear hr1 hJ1 hE1 hJ hE hs hxr hcr hn hna hnf hna'
  go_enter Tryz.func3, Tryz.ntmps3
  go_upto_region 1 with fail
  generalize w.alloc (.cells #[.slice fa nf fc, .int .i64 mn, .slice aa na ac, .int .i64 fu, .int .i64 tk] 25) = w1 at *
  have HB1 := hide hb1
  clear hb1
  go_wp2_with (first
    | (go_at_call 6; go_must (refine AL.mono ?_; rintro e w2 ⟨rfl, hb2⟩; have q0 := keep_cell p0 hb2; have q1 := keep_cell p1 hb2; have q2 := keep_cell p2 hb2; have q3 := keep_cell p3 hb2; have q4 := keep_cell p4 hb2; have hkl := cell_some_lt q0; have HB2 := hide hb2; clear p0 p1 p2 p3 p4 hl1 AL hb2; refine Hid.out ?_)))
  refine Lib.hid ?_
  go_wp2_with (go_at_call 7; go_must (refine (HBIG.out _ HB2.out).mono ?_; rintro e w3 ⟨bg, rfl, hb3⟩; refine Hid.out ?_))
  refine Lib.hid ?_
  have p0 := keep_cell q0 hb3
  have p1 := keep_cell q1 hb3
  have p2 := keep_cell q2 hb3
  have p3 := keep_cell q3 hb3
  have p4 := keep_cell q4 hb3
  have HB3 := hide (HB2.out.trans (hb3.mono HB2.out.size))
  have hjl := cell_some_lt p0
  clear q0 q1 q2 q3 q4 hkl hb3 HBIG HB2
  cases bg with
  | true =>
    go_wp2
    go_ret
    exact ⟨rfl, HB1.out.trans (HB3.out.mono HB1.out.size)⟩
  | false =>
    by_cases c1 : (100 : Int) < (xl : Int)
    · go_wp2
      go_ret
      exact ⟨rfl, HB1.out.trans (HB3.out.mono HB1.out.size)⟩
    by_cases c2 : (100 : Int) < (cl : Int)
    · go_wp2
      go_ret
      exact ⟨rfl, HB1.out.trans (HB3.out.mono HB1.out.size)⟩
    by_cases c3 : (5000 : Int) < fu
    · go_wp2
      go_ret
      exact ⟨rfl, HB1.out.trans (HB3.out.mono HB1.out.size)⟩
    have HBW := hide (HB1.out.trans (HB3.out.mono HB1.out.size))
    obtain ⟨hJ3, hE3⟩ := HJ.out w3 HBW.out
    by_cases hok : (checkL fs mn args.length fu tk).2.2 = 0 ∧ ∃ k : Nat, f = (k : Int) ∧ ∃ h : k < fs.length, (xl : Int) = fs[k].args
    · obtain ⟨hC, k, rfl, hk, hxk⟩ := hok
      obtain ⟨g, hg⟩ : ∃ g, fs[k] = g := ⟨_, rfl⟩
      have hff : fs[k]? = some g := by rw [List.getElem?_eq_getElem hk, hg]
      rw [hg] at hxk
      have hcode := code_of hC hff
      obtain ⟨D, hD⟩ : ∃ D, depsOf fs mn args.length fu tk (k : Int) = D := ⟨_, rfl⟩
      rw [hD] at hcode
      have hfuel := fuel_of hC
      obtain ⟨n, hnl⟩ : ∃ n : Nat, g.locals = (n : Int) := ⟨g.locals.toNat, by have := hcode.lo; omega⟩
      have hgl := hcode.lo
      have C8 := begin_args ⟨fa, nf, fc, mn, aa, na, ac, fu, tk⟩ cs fs args k g n w3 hJ3 hE3 HNF.out HSM.out hC hff xa xl xc xs hxl (HXR.out _ HBW.out) hxk.symm (by omega) hnl (by omega)
      obtain ⟨lo0, hlo0⟩ : ∃ l, xs ++ List.replicate (n - xl) 0 = l := ⟨_, rfl⟩
      have hll : lo0.length = n := by rw [← hlo0]; simp; omega
      simp only [hlo0] at C8
      clear hlo0
      subst hll
      have hD0 : D[0]? = some 0 := by
        have h1 := hcode.dl
        have h2 := hcode.n1
        have h3 := hcode.d0
        have h4 : 0 < D.length := by omega
        rw [List.getElem?_eq_getElem h4]
        simp [List.getD, h4] at h3
        rw [h3]
      have hfit : Fit fs g D ⟨k, 0, 0, [], lo0, 0, false, 0, 0, 0, 0, [], 0, 0⟩ := ⟨hff, hD0, hnl.symm, ⟨Int.le_refl 0, (by decide : (0 : Int) ≤ 16)⟩⟩
      obtain ⟨Q, hQ, hch, hQe⟩ := chain_start hcode hfuel.2 (by omega) hfit rfl rfl rfl rfl ⟨rfl, rfl, rfl, rfl, rfl⟩
      have HJW := hide HJ.out
      clear hg hk hxk hD0
      go_wp2_with (go_at_call 8; go_must (refine C8.mono ?_; rintro e w4 ⟨b, rfl, hlb, hb4⟩; refine Hid.out ?_))
      refine Lib.hid ?_
      have hs5 := heap_alloc_new w4 (.cells #[.int .i64 (k : Int), .int .i64 0, .int .i64 0, .slice none 0 0, .slice (some ⟨b, 0, none⟩) lo0.length lo0.length, .int .i64 0, .bool false] 29)
      have hb5 := alloc_below w4 (.cells #[.int .i64 (k : Int), .int .i64 0, .int .i64 0, .slice none 0 0, .slice (some ⟨b, 0, none⟩) lo0.length lo0.length, .int .i64 0, .bool false] 29)
      go_upto_region 6 with fail
      generalize w4.alloc (.cells #[.int .i64 (k : Int), .int .i64 0, .int .i64 0, .slice none 0 0, .slice (some ⟨b, 0, none⟩) lo0.length lo0.length, .int .i64 0, .bool false] 29) = w5 at *
      have hb35 := chain hb4 hb5
      have hb15 : Below w1.heap.size w1 w5 := HB3.out.trans (hb35.mono HB3.out.size)
      have hbw5 : Below w.heap.size w w5 := HBW.out.trans (hb35.mono HBW.out.size)
      have hlb5 := heap_row hlb hb5
      have hlo5 : Reads w5 (some ⟨b, 0, none⟩) (iV lo0) := .inr ⟨b, 0, rfl, fun j u hu => by
        rw [Nat.zero_add]
        exact cell_row (cs := iV lo0) (i := j) hlb5 hu⟩
      have CR0 : Calls Tryz.prog 10 #[.agg #[.slice fa nf fc, .int .i64 mn, .slice aa na ac, .int .i64 fu, .int .i64 tk], .agg #[.int .i64 (k : Int), .int .i64 0, .int .i64 0, .slice none 0 0, .slice (some ⟨b, 0, none⟩) lo0.length lo0.length, .int .i64 0, .bool false], .int .i64 0, .int .i64 6000] w5 (RunQ w5 (finM Q)) :=
        cut_run (⟨(HJW.out w5 hbw5).1, (HJW.out w5 hbw5).2, HNF.out, HSM.out, hC, hff, hD, hcode, hfuel⟩ : CJob w5 fa nf fc mn aa na ac fu tk cs fs args k g D) (P := ⟨k, 0, 0, [], lo0, 0, false, 0, 0, 0, 0, [], 0, 0⟩) rfl hfit rfl rfl (by show ((0 : Nat) : Int) ≤ fu; omega) (sa := none) (sc := 0) (la := some ⟨b, 0, none⟩) (lc := lo0.length) ⟨.inl rfl, hlo5, fun _ => ⟨rfl, rfl⟩, fun h => by cases h⟩ 6001 Q 6000 hQ
      have CN := fun w => tnum_any 0 w
      have j0 := keep_cell p0 hb35
      have j1 := keep_cell p1 hb35
      have j2 := keep_cell p2 hb35
      have j3 := keep_cell p3 hb35
      have j4 := keep_cell p4 hb35
      have s0 := cell_row (i := 0) (cs := [.int .i64 (k : Int), .int .i64 0, .int .i64 0, .slice none 0 0, .slice (some ⟨b, 0, none⟩) lo0.length lo0.length, .int .i64 0, .bool false]) hs5 rfl
      have s1 := cell_row (i := 1) (cs := [.int .i64 (k : Int), .int .i64 0, .int .i64 0, .slice none 0 0, .slice (some ⟨b, 0, none⟩) lo0.length lo0.length, .int .i64 0, .bool false]) hs5 rfl
      have s2 := cell_row (i := 2) (cs := [.int .i64 (k : Int), .int .i64 0, .int .i64 0, .slice none 0 0, .slice (some ⟨b, 0, none⟩) lo0.length lo0.length, .int .i64 0, .bool false]) hs5 rfl
      have s3 := cell_row (i := 3) (cs := [.int .i64 (k : Int), .int .i64 0, .int .i64 0, .slice none 0 0, .slice (some ⟨b, 0, none⟩) lo0.length lo0.length, .int .i64 0, .bool false]) hs5 rfl
      have s4 := cell_row (i := 4) (cs := [.int .i64 (k : Int), .int .i64 0, .int .i64 0, .slice none 0 0, .slice (some ⟨b, 0, none⟩) lo0.length lo0.length, .int .i64 0, .bool false]) hs5 rfl
      have s5 := cell_row (i := 5) (cs := [.int .i64 (k : Int), .int .i64 0, .int .i64 0, .slice none 0 0, .slice (some ⟨b, 0, none⟩) lo0.length lo0.length, .int .i64 0, .bool false]) hs5 rfl
      have s6 := cell_row (i := 6) (cs := [.int .i64 (k : Int), .int .i64 0, .int .i64 0, .slice none 0 0, .slice (some ⟨b, 0, none⟩) lo0.length lo0.length, .int .i64 0, .bool false]) hs5 rfl
      have HB5 := hide hb15
      have HBW5 := hide hbw5
      have HLO := hide hlo5
      have HBL := hide (lt_row hlb)
      have HZ := hide (show w.heap.size < w4.heap.size by have := lt_row HR1.out; have := HB3.out.size; have := hb4.size; omega)
      have HLW := hide (lt_row HR1.out)
      have HS5 := hide hs5
      have hls5 := lt_row hs5
      have HLB := hide hls5
      clear hJ3 hE3 C8 hlb hlb5 hlo5 hb4 hb35 hb15 hbw5 hs5 hb5 p0 p1 p2 p3 p4 HXR
      go_wp2_with (first
        | (go_at_call 9; go_must (refine (CN _).mono ?_; rintro e w5' ⟨rfl, rfl⟩))
        | (go_at_call 10; go_must (refine CR0.mono ?_; rintro e w6 ⟨ta, tc, ma, mc, ea, ec, rfl, q1, q2, q3, q4, q5, q6, ⟨k1, k2, k3⟩, hb6⟩; refine Hid.out ?_)))
      refine Lib.hid ?_
      obtain ⟨d1, d2, d3⟩ := two_newW w6 (.cells #[.int .i64 ((finM Q).fn : Int), .int .i64 ((finM Q).pc : Int), .int .i64 ((finM Q).fu : Int), .slice ta (finM Q).sk.length tc, .slice ma (finM Q).lo.length mc, .int .i64 (finM Q).kd, .bool (finM Q).wt] 29) (.cells #[.int .i64 (finM Q).ek, .int .i64 (finM Q).ef, .int .i64 (finM Q).ei, .int .i64 ((finM Q).es : Int), .slice ea (finM Q).ar.length ec, .int .i64 (finM Q).er, .int .i64 (finM Q).ev] 37)
      go_upto_region 9 with fail
      generalize (w6.alloc (.cells #[.int .i64 ((finM Q).fn : Int), .int .i64 ((finM Q).pc : Int), .int .i64 ((finM Q).fu : Int), .slice ta (finM Q).sk.length tc, .slice ma (finM Q).lo.length mc, .int .i64 (finM Q).kd, .bool (finM Q).wt] 29)).alloc (.cells #[.int .i64 (finM Q).ek, .int .i64 (finM Q).ef, .int .i64 (finM Q).ei, .int .i64 ((finM Q).es : Int), .slice ea (finM Q).ar.length ec, .int .i64 (finM Q).er, .int .i64 (finM Q).ev] 37) = w7 at *
      have hb57 := chain hb6 d3
      have HI := hide (show CInv w w4.heap.size w6.heap.size (w6.heap.size + 1) [.slice fa nf fc, .int .i64 mn, .slice aa na ac, .int .i64 fu, .int .i64 tk] fs g D fu k Q ta tc ma mc ea ec w7 0 0 ⟨k, 0, 0, [], lo0, 0, false, 0, 0, 0, 0, [], 0, 0⟩ none 0 (some ⟨b, 0, none⟩) lo0.length from
        ⟨HBW5.out.trans (hb57.mono HBW5.out.size), hch, rfl, (by omega), (by have := HZ.out; have := HLB.out; have := hb6.size; omega), heap_row HR1.out (HB5.out.trans (hb57.mono HB5.out.size)), heap_row HS5.out hb57, d1, d2, ⟨.inl rfl, HLO.out.below hb57, fun _ => ⟨rfl, rfl⟩, fun h => by cases h⟩, ⟨q1.below d3, q3.below d3, q2, q4⟩, q5.below d3,
          ⟨fun x h => (by cases h), fun x h => (by cases h; show b ≠ w4.heap.size; have := HBL.out; omega), fun x h => (by have := k1 x h; have := HLB.out; omega), fun x h => (by have := k2 x h; have := HLB.out; omega), fun x h => (by have := k3 x h; have := HLB.out; omega)⟩⟩)
      clear d1 d2 d3 hb57 q1 q2 q3 q4 q5 q6 k1 k2 k3 hb6 j0 j1 j2 j3 j4 s0 s1 s2 s3 s4 s5 s6 CR0 CN HLO HS5 HBL
      go_wp2_with fail
      go_loopw [15, 16, 17, 18, 19] (fun tot i _ _ _ wr => ∃ u T : Nat, u ≤ 6100 ∧ tot = .int .i64 (T : Int) ∧ i = .int .i64 (u : Int) ∧ Hid (∃ P sa sc la lc, CInv w w4.heap.size w6.heap.size (w6.heap.size + 1) [.slice fa nf fc, .int .i64 mn, .slice aa na ac, .int .i64 fu, .int .i64 tk] fs g D fu k Q ta tc ma mc ea ec wr u T P sa sc la lc)) (fun _ i _ _ _ _ => 6100 - (intOf i).toNat)
      case atStart => exact ⟨0, 0, Nat.zero_le _, rfl, rfl, ⟨_, _, _, _, _, HI.out⟩⟩
      case round =>
        clear HI
        obtain ⟨u, T, hu, rfl, rfl, hx⟩ := hrel
        obtain ⟨P, sa, sc, la, lc, I⟩ := hx.out
        clear hx
        have hT5 : T ≤ 5000 := by have := I.facts.2.1; omega
        by_cases hlt : u < 6100
        · have hlt' : (u : Int) < 6100 := by omega
          by_cases hkc : u < cl
          · have hki : (u : Int) < (cl : Int) := by omega
            obtain ⟨cb, co, rfl, hcell⟩ := reads_at (HCR.out wr I.bel) (show u < cu.length by omega)
            have dd := hcell.out u (.int .i64 (cu[u]'(by omega))) (by simp [iV, show u < cu.length by omega])
            clear hcell
            generalize cu[u]'(by omega) = x at dd
            obtain ⟨m, hm⟩ : ∃ m : Nat, (m : Int) = x % 64 := ⟨(x % 64).toNat, by omega⟩
            have hnle : m ≤ 63 := by omega
            have hmask : bits .and .i64 x 63 = (m : Int) := by rw [mask63, hm]
            have HKN := hide (show m = m ∧ u < 100 by omega)
            clear hm
            obtain ⟨q, hq, ⟨hes, hlen⟩, ho⟩ := chain_step2 hcode hfuel.2 I.ch m hnle
            obtain ⟨i1, i2, i3⟩ := I.facts
            have CR := cut_run (⟨(HJ.out wr I.bel).1, (HJ.out wr I.bel).2, HNF.out, HSM.out, hC, hff, hD, hcode, hfuel⟩ : CJob wr fa nf fc mn aa na ac fu tk cs fs args k g D) I.fn I.ch.fit I.ch.wt i3 I.ch.le I.sm 6001 q (m : Int) hq
            have HPUT := hide (fun (R : PM) (sa2 la2 ea2 : Option Addr) (sc2 lc2 ec2 : Nat) (w2 : World) (hb2 : Below wr.heap.size wr w2) (hm : SMem w2 R sa2 sc2 la2 lc2) (hr : Reads w2 ea2 (iV R.ar)) (hbk : (∀ x, sa2 = some x → wr.heap.size ≤ x.block) ∧ (∀ x, la2 = some x → wr.heap.size ≤ x.block) ∧ (∀ x, ea2 = some x → wr.heap.size ≤ x.block)) => cut_put (ec2 := ec2) I hb2 hm hr hbk)
            have HFN : Hid ((finM q).fn = k) := hide ((run_fn hq I.ch.wt).trans I.fn)
            generalize finM q = R at CR ho hes hlen HFN
            have HO := hide ho
            have HES := hide hes
            have HLEN := hide hlen
            have p0 := cell_row (i := 0) I.job rfl
            have p1 := cell_row (i := 1) I.job rfl
            have p2 := cell_row (i := 2) I.job rfl
            have p3 := cell_row (i := 3) I.job rfl
            have p4 := cell_row (i := 4) I.job rfl
            have s0 := cell_row (i := 0) I.st rfl
            have s1 := cell_row (i := 1) I.st rfl
            have s2 := cell_row (i := 2) I.st rfl
            have s3 := cell_row (i := 3) I.st rfl
            have s4 := cell_row (i := 4) I.st rfl
            have s5 := cell_row (i := 5) I.st rfl
            have s6 := cell_row (i := 6) I.st rfl
            have HI := hide I
            clear hq ho hes hlen I i1 i3
            go_wp2_with (first
              | (go_at_call 10; go_must (refine CR.mono ?_; rintro e v2 ⟨sa2, sc2, la2, lc2, ea2, ec2, rfl, q1, q2, q3, q4, q5, q6, hk3, hb2⟩; refine Hid.out ?_)))
            refine Lib.hid ?_
            clear p0 p1 p2 p3 p4 s0 s1 s2 s3 s4 s5 s6 CR
            obtain ⟨⟨y1, y2, y3⟩, P4⟩ := HPUT.out R sa2 la2 ea2 sc2 lc2 ec2 v2 hb2 ⟨q1, q3, q2, q4⟩ q5 hk3 _ rfl _ rfl
            have HB2 := hide hb2
            have HSQ := hide (show SMem v2 R sa2 sc2 la2 lc2 from ⟨q1, q3, q2, q4⟩)
            have HRQ := hide q5
            clear q1 q2 q3 q4 q5 q6 hk3 HPUT hb2
            go_upto_region 17 with fail
            generalize (v2.alloc (.cells #[.int .i64 (R.fn : Int), .int .i64 (R.pc : Int), .int .i64 (R.fu : Int), .slice sa2 R.sk.length sc2, .slice la2 R.lo.length lc2, .int .i64 R.kd, .bool R.wt] 29)).alloc (.cells #[.int .i64 R.ek, .int .i64 R.ef, .int .i64 R.ei, .int .i64 (R.es : Int), .slice ea2 R.ar.length ec2, .int .i64 R.er, .int .i64 R.ev] 37) = v3 at *
            have u0 := cell_row (i := 0) y1 rfl
            have u1 := cell_row (i := 1) y1 rfl
            have u2 := cell_row (i := 2) y1 rfl
            have u3 := cell_row (i := 3) y1 rfl
            have u4 := cell_row (i := 4) y1 rfl
            have u5 := cell_row (i := 5) y1 rfl
            have u6 := cell_row (i := 6) y1 rfl
            have z0 := cell_row (i := 0) y2 rfl
            have z1 := cell_row (i := 1) y2 rfl
            have z2 := cell_row (i := 2) y2 rfl
            have z3 := cell_row (i := 3) y2 rfl
            have z4 := cell_row (i := 4) y2 rfl
            have z5 := cell_row (i := 5) y2 rfl
            have z6 := cell_row (i := 6) y2 rfl
            have zf0 : v3.frozen? ⟨w4.heap.size, 0, none⟩ = false := by simp [World.frozen?, y2]
            have zf1 : v3.frozen? ⟨w4.heap.size, 1, none⟩ = false := by simp [World.frozen?, y2]
            have zf2 : v3.frozen? ⟨w4.heap.size, 2, none⟩ = false := by simp [World.frozen?, y2]
            have zf3 : v3.frozen? ⟨w4.heap.size, 3, none⟩ = false := by simp [World.frozen?, y2]
            have zf4 : v3.frozen? ⟨w4.heap.size, 4, none⟩ = false := by simp [World.frozen?, y2]
            have zf5 : v3.frozen? ⟨w4.heap.size, 5, none⟩ = false := by simp [World.frozen?, y2]
            have zf6 : v3.frozen? ⟨w4.heap.size, 6, none⟩ = false := by simp [World.frozen?, y2]
            clear y1 y2
            go_upto_region 18 with fail
            have hE4 : (((((((v3.setCell ⟨w4.heap.size, 0, none⟩ (.int .i64 (R.fn : Int))).setCell ⟨w4.heap.size, 1, none⟩ (.int .i64 (R.pc : Int))).setCell ⟨w4.heap.size, 2, none⟩ (.int .i64 (R.fu : Int))).setCell ⟨w4.heap.size, 3, none⟩ (.slice sa2 R.sk.length sc2)).setCell ⟨w4.heap.size, 4, none⟩ (.slice la2 R.lo.length lc2)).setCell ⟨w4.heap.size, 5, none⟩ (.int .i64 R.kd)).setCell ⟨w4.heap.size, 6, none⟩ (.bool R.wt)) = v3.setCells w4.heap.size 0 [.int .i64 (R.fn : Int), .int .i64 (R.pc : Int), .int .i64 (R.fu : Int), .slice sa2 R.sk.length sc2, .slice la2 R.lo.length lc2, .int .i64 R.kd, .bool R.wt] := rfl
            rw [hE4]
            clear hE4 u0 u1 u2 u3 u4 u5 u6 z0 z1 z2 z3 z4 z5 z6 zf0 zf1 zf2 zf3 zf4 zf5 zf6
            generalize v3.setCells w4.heap.size 0 [.int .i64 (R.fn : Int), .int .i64 (R.pc : Int), .int .i64 (R.fu : Int), .slice sa2 R.sk.length sc2, .slice la2 R.lo.length lc2, .int .i64 R.kd, .bool R.wt] = v4 at P4 ⊢
            obtain ⟨ev4, bel4, job4, st4, ws4, we4, sm4, wm4, wa4, ra4, ne4, hne4, hlt4⟩ := P4
            have e3 := cell_row (i := 3) ev4 rfl
            have hwr : wrap64 ((T : Int) + (R.es : Int)) = ((T + R.es : Nat) : Int) := by have := HES.out; rw [wrap_inB (by omega)]; omega
            rcases HO.out with ⟨o1, o2, o3⟩ | ⟨o1, o2⟩
            · have hfit2 : Fit fs g D R := ⟨o3.fit.fn, o3.fit.pc, o3.fit.lo, o3.fit.kd⟩
              have hle2 : (R.fu : Int) ≤ fu := o3.le
              have CM := cut_may (⟨(HJ.out v4 bel4).1, (HJ.out v4 bel4).2, HNF.out, HSM.out, hC, hff, hD, hcode, hfuel⟩ : CJob v4 fa nf fc mn aa na ac fu tk cs fs args k g D) HFN.out hfit2 o3.wt hle2 sm4
              have p0 := cell_row (i := 0) job4 rfl
              have p1 := cell_row (i := 1) job4 rfl
              have p2 := cell_row (i := 2) job4 rfl
              have p3 := cell_row (i := 3) job4 rfl
              have p4 := cell_row (i := 4) job4 rfl
              have s0 := cell_row (i := 0) st4 rfl
              have s1 := cell_row (i := 1) st4 rfl
              have s2 := cell_row (i := 2) st4 rfl
              have s3 := cell_row (i := 3) st4 rfl
              have s4 := cell_row (i := 4) st4 rfl
              have s5 := cell_row (i := 5) st4 rfl
              have s6 := cell_row (i := 6) st4 rfl
              have e0 := cell_row (i := 0) ev4 rfl
              rw [o1] at e0
              go_wp2_with (first
                | (go_at_call 11; go_must (refine CM.mono ?_; rintro e v5 ⟨rfl, hb5⟩; refine Hid.out ?_)))
              refine Lib.hid ?_
              have e0' := keep_cell e0 hb5
              have HNI := hide (show CInv w w4.heap.size w6.heap.size (w6.heap.size + 1) [.slice fa nf fc, .int .i64 mn, .slice aa na ac, .int .i64 fu, .int .i64 tk] fs g D fu k Q ta tc ma mc ea ec v5 (u + 1) (T + R.es) { R with es := 0 } sa2 sc2 la2 lc2 from
                ⟨bel4.trans (hb5.mono bel4.size), o3, HFN.out, kT_new HI.out.kT (.inl HKN.out.2), HI.out.bs, heap_row job4 hb5, heap_row st4 hb5, heap_row ws4 hb5, heap_row we4 hb5, (⟨sm4.r1.below hb5, sm4.r2.below hb5, sm4.n1, sm4.n2⟩ : SMem v5 { R with es := 0 } sa2 sc2 la2 lc2), wm4.below hb5, wa4.below hb5, ne4⟩)
              clear p0 p1 p2 p3 p4 s0 s1 s2 s3 s4 s5 s6 e0 e3 ev4 job4 st4 ws4 we4 CM
              go_wp2_with fail
              go_roundw
              case rel => exact ⟨u + 1, T + R.es, by omega, rfl, by go_num, ⟨_, _, _, _, _, HNI.out⟩⟩
              case measure => simp [intOf]; omega
            · have hk0 : (R.ek == 0) = false := by simpa using o1
              have hk1 : (R.ek != 0) = true := by simpa using o1
              obtain ⟨g1, g2, g3⟩ := HLEN.out
              have HP5 := hide (cut_end HI.out HB2.out HSQ.out HRQ.out bel4 st4 ws4 we4 sm4 wm4 wa4 ra4 (.int .i64 ((T : Int) + (R.es : Int))) _ rfl)
              have e0 := cell_row (i := 0) ev4 rfl
              have e1 := cell_row (i := 1) ev4 rfl
              have e2 := cell_row (i := 2) ev4 rfl
              have e3 := cell_row (i := 3) ev4 rfl
              have e4 := cell_row (i := 4) ev4 rfl
              have e5 := cell_row (i := 5) ev4 rfl
              have e6 := cell_row (i := 6) ev4 rfl
              have zf3 : v4.frozen? ⟨v2.heap.size + 1, 3, none⟩ = false := by simp [World.frozen?, ev4]
              clear ws4 we4 st4 job4 sm4 wm4 wa4 ra4 bel4 ev4
              go_upto_region 23 with fail
              have x0 : (v4.setCell ⟨v2.heap.size + 1, 3, none⟩ (.int .i64 ((T : Int) + (R.es : Int)))).cell? ⟨v2.heap.size + 1, 0, none⟩ = some (.int .i64 R.ek) := by go_simp
              have x1 : (v4.setCell ⟨v2.heap.size + 1, 3, none⟩ (.int .i64 ((T : Int) + (R.es : Int)))).cell? ⟨v2.heap.size + 1, 1, none⟩ = some (.int .i64 R.ef) := by go_simp
              have x2 : (v4.setCell ⟨v2.heap.size + 1, 3, none⟩ (.int .i64 ((T : Int) + (R.es : Int)))).cell? ⟨v2.heap.size + 1, 2, none⟩ = some (.int .i64 R.ei) := by go_simp
              have x3 : (v4.setCell ⟨v2.heap.size + 1, 3, none⟩ (.int .i64 ((T : Int) + (R.es : Int)))).cell? ⟨v2.heap.size + 1, 3, none⟩ = some (.int .i64 ((T : Int) + (R.es : Int))) := by go_simp
              have x4 : (v4.setCell ⟨v2.heap.size + 1, 3, none⟩ (.int .i64 ((T : Int) + (R.es : Int)))).cell? ⟨v2.heap.size + 1, 4, none⟩ = some (.slice ea2 R.ar.length ec2) := by go_simp
              have x5 : (v4.setCell ⟨v2.heap.size + 1, 3, none⟩ (.int .i64 ((T : Int) + (R.es : Int)))).cell? ⟨v2.heap.size + 1, 5, none⟩ = some (.int .i64 R.er) := by go_simp
              have x6 : (v4.setCell ⟨v2.heap.size + 1, 3, none⟩ (.int .i64 ((T : Int) + (R.es : Int)))).cell? ⟨v2.heap.size + 1, 6, none⟩ = some (.int .i64 R.ev) := by go_simp
              clear e0 e1 e2 e3 e4 e5 e6 zf3
              generalize v4.setCell ⟨v2.heap.size + 1, 3, none⟩ (.int .i64 ((T : Int) + (R.es : Int))) = v5 at *
              obtain ⟨bel5, st5, ws5, we5, sm5, wm5, wa5, ra5⟩ := HP5.out
              rw [o2] at ws5 we5 wm5 wa5
              dsimp only at ws5 we5 wa5
              rw [Int.natCast_add] at we5
              have wr1 : Reads v5 ta (iV R.sk.reverse) := wm5.r1
              have wr2 : Reads v5 ma (iV R.lo) := wm5.r2
              have c0 := cell_row (i := 0) we5 rfl
              have c1 := cell_row (i := 1) we5 rfl
              have c2 := cell_row (i := 2) we5 rfl
              have c3 := cell_row (i := 3) we5 rfl
              have c4 := cell_row (i := 4) we5 rfl
              have c5 := cell_row (i := 5) we5 rfl
              have c6 := cell_row (i := 6) we5 rfl
              have C12 := same_event R.ek R.ef R.ei ((T : Int) + (R.es : Int)) R.er R.ev ea2 ea ec2 ec R.ar.length R.ar v5 rfl (len_ok g3) ra5 wa5
              have HS13 := hide (fun (W : World) (hb : Below v5.heap.size v5 W) => same_state (R.fn : Int) (R.pc : Int) (R.fu : Int) R.kd R.wt sa2 ta la2 ma sc2 tc lc2 mc R.sk.length R.lo.length R.sk.reverse R.lo W (by simp) rfl (len_ok g1) (len_ok g2) (sm5.r1.below hb) (wr1.below hb) (sm5.r2.below hb) (wr2.below hb))
              have HST := hide st5
              have HWS := hide ws5
              have HBE := hide bel5
              clear st5 ws5 we5 sm5 wm5 wa5 ra5 wr1 wr2 bel5 HP5
              go_wp2_with (first
                | (go_at_call 12; go_must (refine C12.mono ?_; rintro e v6 ⟨rfl, hb6⟩; refine Hid.out ?_)))
              refine Lib.hid ?_
              have C13 := HS13.out v6 hb6
              have st6 := heap_row HST.out hb6
              have ws6 := heap_row HWS.out hb6
              have s0 := cell_row (i := 0) st6 rfl
              have s1 := cell_row (i := 1) st6 rfl
              have s2 := cell_row (i := 2) st6 rfl
              have s3 := cell_row (i := 3) st6 rfl
              have s4 := cell_row (i := 4) st6 rfl
              have s5 := cell_row (i := 5) st6 rfl
              have s6 := cell_row (i := 6) st6 rfl
              have t0 := cell_row (i := 0) ws6 rfl
              have t1 := cell_row (i := 1) ws6 rfl
              have t2 := cell_row (i := 2) ws6 rfl
              have t3 := cell_row (i := 3) ws6 rfl
              have t4 := cell_row (i := 4) ws6 rfl
              have t5 := cell_row (i := 5) ws6 rfl
              have t6 := cell_row (i := 6) ws6 rfl
              have HB6 := hide (HBE.out.trans (hb6.mono HBE.out.size))
              clear x0 x1 x2 x3 x4 x5 x6 c0 c1 c2 c3 c4 c5 c6 C12 st6 ws6 hb6
              go_wp2_with (first
                | (go_at_call 13; go_must (refine C13.mono ?_; rintro e v7 ⟨rfl, hb7⟩)))
              try go_ret
              exact ⟨rfl, HB6.out.trans (hb7.mono HB6.out.size)⟩
          · have hki : ¬ (u : Int) < (cl : Int) := by omega
            have hnle : 1 ≤ 63 := by decide
            have HKN := hide (trivial : True)
            obtain ⟨q, hq, ⟨hes, hlen⟩, ho⟩ := chain_step2 hcode hfuel.2 I.ch 1 hnle
            obtain ⟨i1, i2, i3⟩ := I.facts
            have CR := cut_run (⟨(HJ.out wr I.bel).1, (HJ.out wr I.bel).2, HNF.out, HSM.out, hC, hff, hD, hcode, hfuel⟩ : CJob wr fa nf fc mn aa na ac fu tk cs fs args k g D) I.fn I.ch.fit I.ch.wt i3 I.ch.le I.sm 6001 q (1 : Int) hq
            have HPUT := hide (fun (R : PM) (sa2 la2 ea2 : Option Addr) (sc2 lc2 ec2 : Nat) (w2 : World) (hb2 : Below wr.heap.size wr w2) (hm : SMem w2 R sa2 sc2 la2 lc2) (hr : Reads w2 ea2 (iV R.ar)) (hbk : (∀ x, sa2 = some x → wr.heap.size ≤ x.block) ∧ (∀ x, la2 = some x → wr.heap.size ≤ x.block) ∧ (∀ x, ea2 = some x → wr.heap.size ≤ x.block)) => cut_put (ec2 := ec2) I hb2 hm hr hbk)
            have HFN : Hid ((finM q).fn = k) := hide ((run_fn hq I.ch.wt).trans I.fn)
            generalize finM q = R at CR ho hes hlen HFN
            have HO := hide ho
            have HES := hide hes
            have HLEN := hide hlen
            have p0 := cell_row (i := 0) I.job rfl
            have p1 := cell_row (i := 1) I.job rfl
            have p2 := cell_row (i := 2) I.job rfl
            have p3 := cell_row (i := 3) I.job rfl
            have p4 := cell_row (i := 4) I.job rfl
            have s0 := cell_row (i := 0) I.st rfl
            have s1 := cell_row (i := 1) I.st rfl
            have s2 := cell_row (i := 2) I.st rfl
            have s3 := cell_row (i := 3) I.st rfl
            have s4 := cell_row (i := 4) I.st rfl
            have s5 := cell_row (i := 5) I.st rfl
            have s6 := cell_row (i := 6) I.st rfl
            have HI := hide I
            clear hq ho hes hlen I i1 i3
            go_wp2_with (first
              | (go_at_call 10; go_must (refine CR.mono ?_; rintro e v2 ⟨sa2, sc2, la2, lc2, ea2, ec2, rfl, q1, q2, q3, q4, q5, q6, hk3, hb2⟩; refine Hid.out ?_)))
            refine Lib.hid ?_
            clear p0 p1 p2 p3 p4 s0 s1 s2 s3 s4 s5 s6 CR
            obtain ⟨⟨y1, y2, y3⟩, P4⟩ := HPUT.out R sa2 la2 ea2 sc2 lc2 ec2 v2 hb2 ⟨q1, q3, q2, q4⟩ q5 hk3 _ rfl _ rfl
            have HB2 := hide hb2
            have HSQ := hide (show SMem v2 R sa2 sc2 la2 lc2 from ⟨q1, q3, q2, q4⟩)
            have HRQ := hide q5
            clear q1 q2 q3 q4 q5 q6 hk3 HPUT hb2
            go_upto_region 17 with fail
            generalize (v2.alloc (.cells #[.int .i64 (R.fn : Int), .int .i64 (R.pc : Int), .int .i64 (R.fu : Int), .slice sa2 R.sk.length sc2, .slice la2 R.lo.length lc2, .int .i64 R.kd, .bool R.wt] 29)).alloc (.cells #[.int .i64 R.ek, .int .i64 R.ef, .int .i64 R.ei, .int .i64 (R.es : Int), .slice ea2 R.ar.length ec2, .int .i64 R.er, .int .i64 R.ev] 37) = v3 at *
            have u0 := cell_row (i := 0) y1 rfl
            have u1 := cell_row (i := 1) y1 rfl
            have u2 := cell_row (i := 2) y1 rfl
            have u3 := cell_row (i := 3) y1 rfl
            have u4 := cell_row (i := 4) y1 rfl
            have u5 := cell_row (i := 5) y1 rfl
            have u6 := cell_row (i := 6) y1 rfl
            have z0 := cell_row (i := 0) y2 rfl
            have z1 := cell_row (i := 1) y2 rfl
            have z2 := cell_row (i := 2) y2 rfl
            have z3 := cell_row (i := 3) y2 rfl
            have z4 := cell_row (i := 4) y2 rfl
            have z5 := cell_row (i := 5) y2 rfl
            have z6 := cell_row (i := 6) y2 rfl
            have zf0 : v3.frozen? ⟨w4.heap.size, 0, none⟩ = false := by simp [World.frozen?, y2]
            have zf1 : v3.frozen? ⟨w4.heap.size, 1, none⟩ = false := by simp [World.frozen?, y2]
            have zf2 : v3.frozen? ⟨w4.heap.size, 2, none⟩ = false := by simp [World.frozen?, y2]
            have zf3 : v3.frozen? ⟨w4.heap.size, 3, none⟩ = false := by simp [World.frozen?, y2]
            have zf4 : v3.frozen? ⟨w4.heap.size, 4, none⟩ = false := by simp [World.frozen?, y2]
            have zf5 : v3.frozen? ⟨w4.heap.size, 5, none⟩ = false := by simp [World.frozen?, y2]
            have zf6 : v3.frozen? ⟨w4.heap.size, 6, none⟩ = false := by simp [World.frozen?, y2]
            clear y1 y2
            go_upto_region 18 with fail
            have hE4 : (((((((v3.setCell ⟨w4.heap.size, 0, none⟩ (.int .i64 (R.fn : Int))).setCell ⟨w4.heap.size, 1, none⟩ (.int .i64 (R.pc : Int))).setCell ⟨w4.heap.size, 2, none⟩ (.int .i64 (R.fu : Int))).setCell ⟨w4.heap.size, 3, none⟩ (.slice sa2 R.sk.length sc2)).setCell ⟨w4.heap.size, 4, none⟩ (.slice la2 R.lo.length lc2)).setCell ⟨w4.heap.size, 5, none⟩ (.int .i64 R.kd)).setCell ⟨w4.heap.size, 6, none⟩ (.bool R.wt)) = v3.setCells w4.heap.size 0 [.int .i64 (R.fn : Int), .int .i64 (R.pc : Int), .int .i64 (R.fu : Int), .slice sa2 R.sk.length sc2, .slice la2 R.lo.length lc2, .int .i64 R.kd, .bool R.wt] := rfl
            rw [hE4]
            clear hE4 u0 u1 u2 u3 u4 u5 u6 z0 z1 z2 z3 z4 z5 z6 zf0 zf1 zf2 zf3 zf4 zf5 zf6
            generalize v3.setCells w4.heap.size 0 [.int .i64 (R.fn : Int), .int .i64 (R.pc : Int), .int .i64 (R.fu : Int), .slice sa2 R.sk.length sc2, .slice la2 R.lo.length lc2, .int .i64 R.kd, .bool R.wt] = v4 at P4 ⊢
            obtain ⟨ev4, bel4, job4, st4, ws4, we4, sm4, wm4, wa4, ra4, ne4, hne4, hlt4⟩ := P4
            have e3 := cell_row (i := 3) ev4 rfl
            have hwr : wrap64 ((T : Int) + (R.es : Int)) = ((T + R.es : Nat) : Int) := by have := HES.out; rw [wrap_inB (by omega)]; omega
            rcases HO.out with ⟨o1, o2, o3⟩ | ⟨o1, o2⟩
            · have hfit2 : Fit fs g D R := ⟨o3.fit.fn, o3.fit.pc, o3.fit.lo, o3.fit.kd⟩
              have hle2 : (R.fu : Int) ≤ fu := o3.le
              have CM := cut_may (⟨(HJ.out v4 bel4).1, (HJ.out v4 bel4).2, HNF.out, HSM.out, hC, hff, hD, hcode, hfuel⟩ : CJob v4 fa nf fc mn aa na ac fu tk cs fs args k g D) HFN.out hfit2 o3.wt hle2 sm4
              have p0 := cell_row (i := 0) job4 rfl
              have p1 := cell_row (i := 1) job4 rfl
              have p2 := cell_row (i := 2) job4 rfl
              have p3 := cell_row (i := 3) job4 rfl
              have p4 := cell_row (i := 4) job4 rfl
              have s0 := cell_row (i := 0) st4 rfl
              have s1 := cell_row (i := 1) st4 rfl
              have s2 := cell_row (i := 2) st4 rfl
              have s3 := cell_row (i := 3) st4 rfl
              have s4 := cell_row (i := 4) st4 rfl
              have s5 := cell_row (i := 5) st4 rfl
              have s6 := cell_row (i := 6) st4 rfl
              have e0 := cell_row (i := 0) ev4 rfl
              rw [o1] at e0
              go_wp2_with (first
                | (go_at_call 11; go_must (refine CM.mono ?_; rintro e v5 ⟨rfl, hb5⟩; refine Hid.out ?_)))
              refine Lib.hid ?_
              have e0' := keep_cell e0 hb5
              have HNI := hide (show CInv w w4.heap.size w6.heap.size (w6.heap.size + 1) [.slice fa nf fc, .int .i64 mn, .slice aa na ac, .int .i64 fu, .int .i64 tk] fs g D fu k Q ta tc ma mc ea ec v5 (u + 1) (T + R.es) { R with es := 0 } sa2 sc2 la2 lc2 from
                ⟨bel4.trans (hb5.mono bel4.size), o3, HFN.out, kT_new HI.out.kT (.inr o2), HI.out.bs, heap_row job4 hb5, heap_row st4 hb5, heap_row ws4 hb5, heap_row we4 hb5, (⟨sm4.r1.below hb5, sm4.r2.below hb5, sm4.n1, sm4.n2⟩ : SMem v5 { R with es := 0 } sa2 sc2 la2 lc2), wm4.below hb5, wa4.below hb5, ne4⟩)
              clear p0 p1 p2 p3 p4 s0 s1 s2 s3 s4 s5 s6 e0 e3 ev4 job4 st4 ws4 we4 CM
              go_wp2_with fail
              go_roundw
              case rel => exact ⟨u + 1, T + R.es, by omega, rfl, by go_num, ⟨_, _, _, _, _, HNI.out⟩⟩
              case measure => simp [intOf]; omega
            · have hk0 : (R.ek == 0) = false := by simpa using o1
              have hk1 : (R.ek != 0) = true := by simpa using o1
              obtain ⟨g1, g2, g3⟩ := HLEN.out
              have HP5 := hide (cut_end HI.out HB2.out HSQ.out HRQ.out bel4 st4 ws4 we4 sm4 wm4 wa4 ra4 (.int .i64 ((T : Int) + (R.es : Int))) _ rfl)
              have e0 := cell_row (i := 0) ev4 rfl
              have e1 := cell_row (i := 1) ev4 rfl
              have e2 := cell_row (i := 2) ev4 rfl
              have e3 := cell_row (i := 3) ev4 rfl
              have e4 := cell_row (i := 4) ev4 rfl
              have e5 := cell_row (i := 5) ev4 rfl
              have e6 := cell_row (i := 6) ev4 rfl
              have zf3 : v4.frozen? ⟨v2.heap.size + 1, 3, none⟩ = false := by simp [World.frozen?, ev4]
              clear ws4 we4 st4 job4 sm4 wm4 wa4 ra4 bel4 ev4
              go_upto_region 23 with fail
              have x0 : (v4.setCell ⟨v2.heap.size + 1, 3, none⟩ (.int .i64 ((T : Int) + (R.es : Int)))).cell? ⟨v2.heap.size + 1, 0, none⟩ = some (.int .i64 R.ek) := by go_simp
              have x1 : (v4.setCell ⟨v2.heap.size + 1, 3, none⟩ (.int .i64 ((T : Int) + (R.es : Int)))).cell? ⟨v2.heap.size + 1, 1, none⟩ = some (.int .i64 R.ef) := by go_simp
              have x2 : (v4.setCell ⟨v2.heap.size + 1, 3, none⟩ (.int .i64 ((T : Int) + (R.es : Int)))).cell? ⟨v2.heap.size + 1, 2, none⟩ = some (.int .i64 R.ei) := by go_simp
              have x3 : (v4.setCell ⟨v2.heap.size + 1, 3, none⟩ (.int .i64 ((T : Int) + (R.es : Int)))).cell? ⟨v2.heap.size + 1, 3, none⟩ = some (.int .i64 ((T : Int) + (R.es : Int))) := by go_simp
              have x4 : (v4.setCell ⟨v2.heap.size + 1, 3, none⟩ (.int .i64 ((T : Int) + (R.es : Int)))).cell? ⟨v2.heap.size + 1, 4, none⟩ = some (.slice ea2 R.ar.length ec2) := by go_simp
              have x5 : (v4.setCell ⟨v2.heap.size + 1, 3, none⟩ (.int .i64 ((T : Int) + (R.es : Int)))).cell? ⟨v2.heap.size + 1, 5, none⟩ = some (.int .i64 R.er) := by go_simp
              have x6 : (v4.setCell ⟨v2.heap.size + 1, 3, none⟩ (.int .i64 ((T : Int) + (R.es : Int)))).cell? ⟨v2.heap.size + 1, 6, none⟩ = some (.int .i64 R.ev) := by go_simp
              clear e0 e1 e2 e3 e4 e5 e6 zf3
              generalize v4.setCell ⟨v2.heap.size + 1, 3, none⟩ (.int .i64 ((T : Int) + (R.es : Int))) = v5 at *
              obtain ⟨bel5, st5, ws5, we5, sm5, wm5, wa5, ra5⟩ := HP5.out
              rw [o2] at ws5 we5 wm5 wa5
              dsimp only at ws5 we5 wa5
              rw [Int.natCast_add] at we5
              have wr1 : Reads v5 ta (iV R.sk.reverse) := wm5.r1
              have wr2 : Reads v5 ma (iV R.lo) := wm5.r2
              have c0 := cell_row (i := 0) we5 rfl
              have c1 := cell_row (i := 1) we5 rfl
              have c2 := cell_row (i := 2) we5 rfl
              have c3 := cell_row (i := 3) we5 rfl
              have c4 := cell_row (i := 4) we5 rfl
              have c5 := cell_row (i := 5) we5 rfl
              have c6 := cell_row (i := 6) we5 rfl
              have C12 := same_event R.ek R.ef R.ei ((T : Int) + (R.es : Int)) R.er R.ev ea2 ea ec2 ec R.ar.length R.ar v5 rfl (len_ok g3) ra5 wa5
              have HS13 := hide (fun (W : World) (hb : Below v5.heap.size v5 W) => same_state (R.fn : Int) (R.pc : Int) (R.fu : Int) R.kd R.wt sa2 ta la2 ma sc2 tc lc2 mc R.sk.length R.lo.length R.sk.reverse R.lo W (by simp) rfl (len_ok g1) (len_ok g2) (sm5.r1.below hb) (wr1.below hb) (sm5.r2.below hb) (wr2.below hb))
              have HST := hide st5
              have HWS := hide ws5
              have HBE := hide bel5
              clear st5 ws5 we5 sm5 wm5 wa5 ra5 wr1 wr2 bel5 HP5
              go_wp2_with (first
                | (go_at_call 12; go_must (refine C12.mono ?_; rintro e v6 ⟨rfl, hb6⟩; refine Hid.out ?_)))
              refine Lib.hid ?_
              have C13 := HS13.out v6 hb6
              have st6 := heap_row HST.out hb6
              have ws6 := heap_row HWS.out hb6
              have s0 := cell_row (i := 0) st6 rfl
              have s1 := cell_row (i := 1) st6 rfl
              have s2 := cell_row (i := 2) st6 rfl
              have s3 := cell_row (i := 3) st6 rfl
              have s4 := cell_row (i := 4) st6 rfl
              have s5 := cell_row (i := 5) st6 rfl
              have s6 := cell_row (i := 6) st6 rfl
              have t0 := cell_row (i := 0) ws6 rfl
              have t1 := cell_row (i := 1) ws6 rfl
              have t2 := cell_row (i := 2) ws6 rfl
              have t3 := cell_row (i := 3) ws6 rfl
              have t4 := cell_row (i := 4) ws6 rfl
              have t5 := cell_row (i := 5) ws6 rfl
              have t6 := cell_row (i := 6) ws6 rfl
              have HB6 := hide (HBE.out.trans (hb6.mono HBE.out.size))
              clear x0 x1 x2 x3 x4 x5 x6 c0 c1 c2 c3 c4 c5 c6 C12 st6 ws6 hb6
              go_wp2_with (first
                | (go_at_call 13; go_must (refine C13.mono ?_; rintro e v7 ⟨rfl, hb7⟩)))
              try go_ret
              exact ⟨rfl, HB6.out.trans (hb7.mono HB6.out.size)⟩
        · exact absurd I.kT (by omega)
    · have hno : (checkL fs mn args.length fu tk).2.2 ≠ 0 ∨ f < 0 ∨ (fs.length : Int) ≤ f ∨ ∃ k : Nat, f = (k : Int) ∧ ∃ h : k < fs.length, (xl : Int) ≠ fs[k].args := by
        by_cases d0 : (checkL fs mn args.length fu tk).2.2 = 0
        · by_cases d1 : f < 0
          · exact .inr (.inl d1)
          · by_cases d2 : (fs.length : Int) ≤ f
            · exact .inr (.inr (.inl d2))
            · refine .inr (.inr (.inr ⟨f.toNat, by omega, by omega, fun e => hok ⟨d0, f.toNat, by omega, by omega, e⟩⟩))
        · exact .inl d0
      have C8 := begin_no ⟨fa, nf, fc, mn, aa, na, ac, fu, tk⟩ cs fs args f w3 hJ3 hE3 HNF.out HSM.out xa xl xc hno
      simp only at C8
      clear hno hok hJ3 hE3 HJ HXR HCR
      go_wp2_with (go_at_call 8; go_must (refine C8.mono ?_; rintro e w4 ⟨x, hx, rfl, hb4⟩; refine Hid.out ?_))
      refine Lib.hid ?_
      have HB4 := hide (HBW.out.trans (hb4.mono HBW.out.size))
      have CN := fun w => tnum_any x w
      have hxe : (x != 0) = true := by simpa using hx
      have HB5 := hide (HB4.out.trans ((alloc_below w4 (.cells #[.int .i64 0, .int .i64 0, .int .i64 0, .slice none 0 0, .slice none 0 0, .int .i64 0, .bool false] 29)).mono HB4.out.size))
      clear hb4 hx
      go_wp2_with (go_at_call 9; go_must (refine (CN _).mono ?_; rintro e w5 ⟨rfl, rfl⟩))
      try go_ret
      exact ⟨rfl, HB5.out⟩
end Go.Proofs.YtnkfdpnommjlcaaGreatDoor
