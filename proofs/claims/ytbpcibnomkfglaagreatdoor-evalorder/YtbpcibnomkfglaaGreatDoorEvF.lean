/- Jobs of several functions evaluated; evaluations step by step, plain. -/
import Derived.Test.YtbpcibnomkfglaaGreatDoorEvA
namespace Go.Proofs.YtbpcibnomkfglaaGreatDoor
open Go.RowKit Go.ChangeShapes Go.WideShapes Go.ChangeAt Go.Deep

def gnm : ByteArray := ⟨#[103]⟩
def hnm : ByteArray := ⟨#[104]⟩
theorem funV_at : ∀ (l : List FR) (j i : Nat) (x : FR) (u : Value), l[j]? = some x → (FR.enc x)[i]? = some u → (funV l)[j * 4 + i]? = some u
  | [], _, _, _, _, h, _ => by cases h
  | t :: L, 0, k, t', u, h, hu => by
    simp at h; subst h
    have hk : k < (FR.enc t).length := (List.getElem?_eq_some_iff.1 hu).1
    rw [show funV (t :: L) = FR.enc t ++ funV L from rfl, Nat.zero_mul, Nat.zero_add, List.getElem?_append_left hk]
    exact hu
  | t :: L, i + 1, k, t', u, h, hu => by
    have := funV_at L i k t' u (by simpa using h) hu
    rw [show funV (t :: L) = FR.enc t ++ funV L from rfl, List.getElem?_append_right (by simp [FR.enc]; omega)]
    rw [show (i + 1) * 4 + k - (FR.enc t).length = i * 4 + k by simp [FR.enc]; omega]
    exact this
theorem job_fns {w : World} {B g n cap : Nat} {fs : List Fun} {cs : List Value} (ho : w.ownsRow B 43 4 (.slice (some ⟨g, 0, none⟩) n cap) n (funV (frs fs cs))) (hl : cs.length = fs.length) (hn : fs.length = n) (hc : ∀ i (h : i < cs.length) (h' : i < fs.length), ∃ ca cc, cs[i] = .slice ca fs[i].code.length cc ∧ Reads w ca (insV fs[i].code)) (fuel tasks : Int) : JobR w ⟨some ⟨g, 0, none⟩, n, cap, 0, none, 0, 0, fuel, tasks⟩ cs fs [] := by
  rcases ho.2 with ⟨q, _⟩ | ⟨g', cap', cur, q, _, q3, q4, _⟩
  · cases q
  · cases q
    refine ⟨hn.symm, q4, hl, .inr ⟨g, 0, rfl, lt_row q3, fun j hj i v hv => ?_⟩, hc, rfl, .inl rfl⟩
    rw [Nat.zero_add]
    have hj' : (frs fs cs)[j]? = some (frs fs cs)[j]! := by
      rw [getElem!_pos _ j hj]
      exact List.getElem?_eq_getElem hj
    have := ho.cells (g := g) rfl _ _ (funV_at _ j i _ v hj' hv)
    rwa [add_none, Nat.zero_add] at this
theorem eval_fns {w : World} {B g n cap : Nat} {fs : List Fun} {cs : List Value} (ho : w.ownsRow B 43 4 (.slice (some ⟨g, 0, none⟩) n cap) n (funV (frs fs cs))) (hl : cs.length = fs.length) (hn : fs.length = n) (hc : ∀ i (h : i < cs.length) (h' : i < fs.length), ∃ ca cc, cs[i] = .slice ca fs[i].code.length cc ∧ Reads w ca (insV fs[i].code)) (fuel tasks : Int) (hE : Env w) (hf : n ≤ 1000) (hs : ∀ f ∈ fs, f.code.length ≤ 1000000000 ∧ f.name.size < 4294967281) (hC : (checkL fs 0 0 fuel tasks).2.2 = 0) (m k d : Nat) (q : List En × Bool × Int × Int) (hq : doE fs fuel tasks m k d [] [] 0 [] = some q) :
    Calls Tryz.prog 11 #[.agg #[.slice (some ⟨g, 0, none⟩) n cap, .int .i64 0, .slice none 0 0, .int .i64 fuel, .int .i64 tasks]] w (EvalPost w q) :=
  eval_any ⟨some ⟨g, 0, none⟩, n, cap, 0, none, 0, 0, fuel, tasks⟩ cs fs [] w (job_fns ho hl hn hc fuel tasks) hE (by omega) hs hC (fun _ => ⟨rfl, rfl⟩) 0 rfl m k d q hq
/- step by step -/
theorem goE_of {D : DoF} {fs : List Fun} {jf : Int} {n : Nat} {E : List En} {x : Dg} {q : PM × Option (Int × Int)} {E' : List En} {ov : Bool} {y : Dg} {t : PM} (h1 : x.small) (h2 : runW fs jf (x.e.id.length : Int) jf n x.s.bare = some q) (h3 : (finM q).es ≤ 1000000) (h4 : evE D E x (finM q) = some (E', ov, y, t)) : goE D fs jf n E x = some (E', ov, y.fin t) := by
  unfold goE
  rw [if_pos h1]
  simp only [h2]
  rw [if_pos h3]
  simp only [h4]
theorem loopE_go {g : List En → Dg → Option (List En × Bool × Dg)} {k : Nat} {E : List En} {x : Dg} {E' : List En} {ov : Bool} {x' : Dg} (h : x.ended = false) (hg : g E x = some (E', ov, x')) : loopE g (k + 1) E false x = loopE g k E' ov x' := by
  rw [loopE, if_pos ⟨h, rfl⟩]
  simp only [hg]
theorem loopE_end {g : List En → Dg → Option (List En × Bool × Dg)} {k : Nat} {E : List En} {x : Dg} {ov : Bool} (h : x.ended = true) : loopE g k E ov x = some (E, ov, x) := by
  cases k <;> rw [loopE, if_neg (fun z => by rw [h] at z; cases z.1)]
theorem doE_of {fs : List Fun} {jf tasks : Int} {n k h : Nat} {E : List En} {id : List UInt8} {fn : Nat} {args : List Int} {f : Fun} {nn : Nat} {E' : List En} {ov : Bool} {x : Dg} (h1 : ¬ (E.length : Int) = tasks) (h2 : E.length ≤ 10000) (h3 : fs[fn]? = some f) (h4 : f.args = (args.length : Int)) (h5 : f.args ≤ f.locals) (h6 : f.locals = (nn : Int)) (h7 : nn ≤ 10000) (hl : loopE (goE (doE fs jf tasks n k h) fs jf n) k (E ++ [(begE id fn args nn).e]) false (begE id fn args nn) = some (E', ov, x)) :
    doE fs jf tasks n k (h + 1) E id fn args = some (E'.set E.length x.e, ov, x.e.er, x.e.ev) := by
  rw [doE, if_neg h1, if_pos h2]
  simp only [h3]
  have hnn : f.locals.toNat = nn := by omega
  rw [if_pos ⟨h4, h5, by omega⟩, hnn]
  simp only [hl]
/-- A run that comes to an event. -/
theorem runW_ev {fs : List Fun} {jf deep : Int} {n a : Nat} {s t : PM} (hwt : s.wt = false) (h : walkN fs 100001 deep a s = some t) (he : t.ek ≠ 0) (ha : a ≤ n) (h1 : ((s.es + a : Nat) : Int) ≤ jf) (h2 : ((s.fu + a : Nat) : Int) ≤ jf) : runW fs jf deep jf n s = some (t, none) := by
  unfold runW begM
  rw [if_neg (by rw [hwt]; simp)]
  simp only [Option.bind_some]
  have q := run_walk (steps := jf) (jf := jf) (k := n - a) (by decide) a s t h h1 h2
  rw [show a + (n - a) = n by omega] at q
  rw [q, run_done he]
/-- A run whose steps are done. -/
theorem runW_more {fs : List Fun} {jf deep : Int} {n a : Nat} {s t : PM} (hwt : s.wt = false) (h : walkN fs 100001 deep a s = some t) (ha : a ≤ n) (h1 : ((s.es + a : Nat) : Int) = jf) (h2 : ((s.fu + a : Nat) : Int) ≤ jf) : runW fs jf deep jf n s = some (t, none) := by
  unfold runW begM
  rw [if_neg (by rw [hwt]; simp)]
  simp only [Option.bind_some]
  have q := run_walk (steps := jf) (jf := jf) (k := n - a) (by decide) a s t h (by omega) h2
  rw [show a + (n - a) = n by omega] at q
  have hk := (walkN_keeps a s t h).2.1
  rw [q]
  cases n - a <;> (unfold runM; rw [if_neg (fun z => by have := z.2; omega)])
/-- A run that has no fuel. -/
theorem runW_fuel {fs : List Fun} {jf deep : Int} {n : Nat} {s : PM} (hwt : s.wt = false) (he : s.ek = 0) (h1 : (s.es : Int) < jf) (h2 : (s.fu : Int) = jf) : runW fs jf deep jf (n + 1) s = some (s, some (21, 0)) := by
  unfold runW begM
  rw [if_neg (by rw [hwt]; simp)]
  simp only [Option.bind_some]
  unfold runM
  rw [if_pos ⟨he, h1⟩]
  unfold stepM
  rw [if_neg (by omega)]
theorem evE_spawn {d : DoF} {E : List En} {x : Dg} {t : PM} {E' : List En} {ov : Bool} {r : Int × Int} (h1 : t.ek = 1) (h2 : kidOk x.e.id t.ei = true) (h3 : 0 ≤ t.ef) (h4 : d E (kidL x.e.id t.ei) t.ef.toNat t.ar = some (E', ov, r)) : evE d E x t = some (E', ov, ⟨{ x.e with steps := x.e.steps + t.es, kids := x.e.kids + 1 }, x.s, x.res ++ [r], x.ended⟩, t) := by
  unfold evE
  rw [if_pos h1, if_pos ⟨h2, h3⟩]
  simp only [h4]
theorem evE_wait {d : DoF} {E : List En} {x : Dg} {t : PM} {er ev : Int} {q : PM × Option (Int × Int)} (h1 : t.ek = 2) (h2 : 0 ≤ t.ei ∧ t.pc ≤ 100000 ∧ t.sk.length ≤ 10000 ∧ t.lo.length ≤ 10000 ∧ t.wt = true) (h3 : x.res[t.ei.toNat]? = some (er, ev)) (h4 : resM t.bare er ev = some q) : evE d E x t = some (E, false, ⟨{ x.e with steps := x.e.steps + t.es, awaits := x.e.awaits ++ [t.ei] }, x.s, x.res, x.ended⟩, finM q) := by
  unfold evE
  rw [if_neg (by rw [h1]; decide), if_pos h1, if_pos h2]
  simp only [h3, h4]
theorem evE_else {d : DoF} {E : List En} {x : Dg} {t : PM} (h1 : t.ek ≠ 1) (h2 : t.ek ≠ 2) : evE d E x t = some (E, false, ⟨{ x.e with steps := x.e.steps + t.es }, x.s, x.res, x.ended⟩, t) := by
  unfold evE
  rw [if_neg h1, if_neg h2]
end Go.Proofs.YtbpcibnomkfglaaGreatDoor
