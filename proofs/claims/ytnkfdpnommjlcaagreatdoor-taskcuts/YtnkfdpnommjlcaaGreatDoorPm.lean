/- The machine, told by plain values; step by step. -/
import Derived.Test.YtnkfdpnommjlcaaGreatDoorRet
namespace Go.Proofs.YtnkfdpnommjlcaaGreatDoor
open Go.RowKit Go.ChangeShapes Go.WideShapes Go.ChangeAt Go.Deep

theorem tplain_any {B : Bd} {w : World} {m : Nat} {M : Mc} {sk sk' lo ar : List Int} (h : Mach B w m M sk.reverse lo ar) (op n : Int) (hp : plL op n sk = some (some sk')) (hn : sk.length ≤ 10000) : Calls Tryz.prog 89 #[.pointer (some ⟨m, 0, none⟩), .agg #[.int .i64 op, .int .i64 n]] w fun e w' => e = .returned (.tuple #[]) ∧ ∃ sv, Mach B w' m { M with sv := sv } sk'.reverse lo ar ∧ Below B w w' := by
  unfold plL at hp
  split at hp
  · rename_i h1; subst h1
    simp at hp; subst hp
    exact plain_push h n hn
  · split at hp
    · rename_i _ h2; subst h2
      cases sk with
      | nil => simp at hp
      | cons x r => simp at hp; subst hp; exact plain_pop h n (by simp at hn; omega)
    · split at hp
      · rename_i _ _ h3; subst h3
        cases sk with
        | nil => simp at hp
        | cons x r => simp at hp; subst hp; exact plain_dup h n (by simp at hn; omega)
      · split at hp
        · rename_i _ _ _ h4; subst h4
          cases sk with
          | nil => simp at hp
          | cons y r =>
            cases r with
            | nil => simp at hp
            | cons x r => simp at hp; subst hp; exact plain_swap h n (by simp at hn; omega)
        · split at hp
          · rename_i _ _ _ _ h7
            cases sk with
            | nil => simp at hp
            | cons y r =>
              cases r with
              | nil => simp at hp
              | cons x r =>
                simp only [Option.some.injEq] at hp
                cases hv : rekL op x y with
                | none => rw [hv] at hp; simp at hp
                | some v =>
                  rw [hv] at hp
                  simp at hp
                  subst hp
                  exact plain_two h op n h7 hv (by simp at hn; omega)
          · simp at hp
/-- What turns in a run: the place, the steps, the stack (its last value first), the event. -/
structure Ab where
  pc : Nat
  fu : Nat
  es : Nat
  ek : Int
  er : Int
  ev : Int
  sk : List Int
/-- What stays. -/
structure Fx where
  fn : Nat
  kd : Int
  wt : Bool
  j : JV
  ef : Int
  ei : Int
def Fx.mc (x : Fx) (a : Ab) (sv lv av : Value) : Mc := ⟨(x.fn : Int), (a.pc : Int), (a.fu : Int), sv, lv, x.kd, x.wt, x.j, a.ek, x.ef, x.ei, (a.es : Int), av, a.er, a.ev⟩
def MachA (B : Bd) (w : World) (m : Nat) (x : Fx) (a : Ab) (lo ar : List Int) : Prop := ∃ sv lv av, Mach B w m (x.mc a sv lv av) a.sk.reverse lo ar
/-- One instruction; none: it fails, waits, spawns, or cannot be done. -/
def stepA (code : List (Int × Int)) (jf : Int) (a : Ab) : Option Ab :=
  if (a.fu : Int) < jf ∧ a.fu ≤ 100000 ∧ a.es ≤ 100000 ∧ a.pc ≤ 100000 ∧ a.sk.length ≤ 10000 then
    match code[a.pc]? with
    | some (op, n) =>
      if op = 18 then (match a.sk with | x :: _ => some ⟨a.pc, a.fu + 1, a.es + 1, 3, 0, x, a.sk⟩ | [] => none)
      else if 14 ≤ op ∧ op ≤ 19 then none
      else (match plL op n a.sk with | some (some sk') => some ⟨a.pc + 1, a.fu + 1, a.es + 1, a.ek, a.er, a.ev, sk'⟩ | _ => none)
    | none => none
  else none

theorem step_A {B : Bd} {w w0 : World} {m : Nat} {x : Fx} {a a' : Ab} {lo ar : List Int} {cs : List Value} {fs : List Fun} {args : List Int} {deep : Int} (h : MachA B w m x a lo ar) (hJ : JobR w0 x.j cs fs args) (hB : B = w0.heap.size) (hb : Below B w0 w) (f : Fun) (hf : fs[x.fn]? = some f) (hs : stepA f.code x.j.fuel a = some a') :
    Calls Tryz.prog 72 #[.pointer (some ⟨m, 0, none⟩), .int .i64 deep] w fun e w' => e = .returned (.tuple #[]) ∧ MachA B w' m x a' lo ar ∧ Below B w w' := by
  obtain ⟨sv, lv, av, h⟩ := h
  unfold stepA at hs
  split at hs
  · rename_i hc
    obtain ⟨h1, h2, h3, h4, h5⟩ := hc
    cases hi : f.code[a.pc]? with
    | none => rw [hi] at hs; simp at hs
    | some q =>
      obtain ⟨op, n⟩ := q
      rw [hi] at hs
      simp only at hs
      split at hs
      · rename_i h18
        subst h18
        cases hsk : a.sk with
        | nil => rw [hsk] at hs; simp at hs
        | cons y r =>
          rw [hsk] at hs h
          simp at hs
          subst hs
          have C := step_ret (deep := deep) h hJ hB hb x.fn a.pc f n rfl rfl hf hi h1 (by show -1000000 ≤ (a.fu : Int) ∧ (a.fu : Int) ≤ 1000000; omega) (by show -1000000 ≤ (a.es : Int) ∧ (a.es : Int) ≤ 1000000; omega) (by omega) (by rw [hsk] at h5; simp at h5; omega)
          refine C.mono ?_
          rintro e w' ⟨rfl, hM, hb'⟩
          exact ⟨rfl, ⟨sv, lv, av, hM⟩, hb'⟩
      · split at hs
        · simp at hs
        · rename_i _ hno
          cases hp : plL op n a.sk with
          | none => rw [hp] at hs; simp at hs
          | some q =>
            cases q with
            | none => rw [hp] at hs; simp at hs
            | some sk' =>
              rw [hp] at hs
              simp at hs
              subst hs
              have C := step_plain (deep := deep) h hJ hB hb x.fn a.pc f op n rfl rfl hf hi h1 (by show -1000000 ≤ (a.fu : Int) ∧ (a.fu : Int) ≤ 1000000; omega) (by show -1000000 ≤ (a.es : Int) ∧ (a.es : Int) ≤ 1000000; omega) (by omega) hno (fun W hW => tplain_any hW op n hp h5)
              refine C.mono ?_
              rintro e w' ⟨rfl, sv', hM, hb'⟩
              exact ⟨rfl, ⟨sv', lv, av, hM⟩, hb'⟩
  · simp at hs
/-- Step by step, until there is an event or the steps are done; none: not within n steps, or it fails. -/
def runA (code : List (Int × Int)) (jf steps : Int) : Nat → Ab → Option Ab
  | 0, a => if a.ek = 0 ∧ (a.es : Int) < steps then none else some a
  | n + 1, a => if a.ek = 0 ∧ (a.es : Int) < steps then (stepA code jf a).bind (runA code jf steps n) else some a

set_option linter.unusedSimpArgs false in
set_option maxRecDepth 100000 in
set_option maxHeartbeats 2000000 in
theorem run_A {B : Bd} {w w0 : World} {m : Nat} {x : Fx} {a a' : Ab} {lo ar : List Int} {cs : List Value} {fs : List Fun} {args : List Int} {deep steps : Int} (h : MachA B w m x a lo ar) (hJ : JobR w0 x.j cs fs args) (hB : B = w0.heap.size) (hb : Below B w0 w) (f : Fun) (hf : fs[x.fn]? = some f) (hwt : x.wt = false) (n : Nat) (hs : runA f.code x.j.fuel steps n a = some a') :
    Calls Tryz.prog 49 #[.pointer (some ⟨m, 0, none⟩), .int .i64 deep, .int .i64 steps] w fun e w' => e = .returned (.tuple #[]) ∧ MachA B w' m x a' lo ar ∧ Below B w w' := by
  have c6 : w.cell? ⟨m, 6, none⟩ = some (.bool false) := by
    obtain ⟨sv, lv, av, hM⟩ := h
    have := hM.cell 6 _ rfl
    rw [show (x.mc a sv lv av).wt = false from hwt] at this
    exact this
  have HS := hide (fun (w : World) (a a' : Ab) (h : MachA B w m x a lo ar) (hb : Below B w0 w) (hs : stepA f.code x.j.fuel a = some a') => step_A (deep := deep) h hJ hB hb f hf hs)
  have H0 := hide h
  have HR := hide hs
  have HBw := hide hb
  clear h hs hb hJ hf hB
  go_enter Tryz.func49, Tryz.ntmps49
  go_wp2_with fail
  go_loopg [] n (fun g wr => Below B w wr ∧ Hid (∃ b, MachA B wr m x b lo ar ∧ runA f.code x.j.fuel steps g b = some a'))
  case atStart => exact ⟨Below.refl _ _, ⟨a, H0.out, HR.out⟩⟩
  case round =>
    obtain ⟨hbw, hx⟩ := hrel
    obtain ⟨b, hM, hr⟩ := hx.out
    obtain ⟨sv, lv, av, hMM⟩ := hM
    have c12 : wr.cell? ⟨m, 12, none⟩ = some (.int .i64 b.ek) := hMM.cell 12 _ rfl
    have c15 : wr.cell? ⟨m, 15, none⟩ = some (.int .i64 (b.es : Int)) := hMM.cell 15 _ rfl
    have HM := hide (show MachA B wr m x b lo ar from ⟨sv, lv, av, hMM⟩)
    have HBB := hide hbw
    clear hMM hx hbw
    by_cases hk : b.ek = 0
    · by_cases hst : (b.es : Int) < steps
      · cases gk with
        | zero => unfold runA at hr; rw [if_pos ⟨hk, hst⟩] at hr; cases hr
        | succ g =>
          unfold runA at hr
          rw [if_pos ⟨hk, hst⟩] at hr
          cases hq : stepA f.code x.j.fuel b with
          | none => rw [hq] at hr; cases hr
          | some b' =>
            rw [hq] at hr
            have HR2 := hide (show runA f.code x.j.fuel steps g b' = some a' from hr)
            have C := HS.out wr b b' HM.out (HBw.out.trans HBB.out) hq
            have hk' : (b.ek == 0) = true := by rw [beq_iff_eq]; exact hk
            clear hr hq
            go_wp2_with (go_at_call 72; go_must (with_reducible refine C.mono ?_; (rintro e w2 ⟨rfl, h2, hb2⟩)))
            go_roundg g
            case measure => omega
            case rel => exact ⟨HBB.out.trans hb2, ⟨b', h2, HR2.out⟩⟩
      · have hba : b = a' := by
          cases gk with
          | zero => unfold runA at hr; rw [if_neg (fun q => hst q.2)] at hr; exact Option.some.inj hr
          | succ g => unfold runA at hr; rw [if_neg (fun q => hst q.2)] at hr; exact Option.some.inj hr
        have HBA := hide hba
        have hk' : (b.ek == 0) = true := by rw [beq_iff_eq]; exact hk
        clear hr hba
        go_wp2_with fail
        go_end0
        exact ⟨rfl, by rw [← HBA.out]; exact HM.out, HBB.out⟩
    · have hba : b = a' := by
        cases gk with
        | zero => unfold runA at hr; rw [if_neg (fun q => hk q.1)] at hr; exact Option.some.inj hr
        | succ g => unfold runA at hr; rw [if_neg (fun q => hk q.1)] at hr; exact Option.some.inj hr
      have HBA := hide hba
      have hk' : (b.ek == 0) = false := by rw [beq_eq_false_iff_ne]; exact hk
      clear hr hba
      go_wp2_with fail
      go_end0
      exact ⟨rfl, by rw [← HBA.out]; exact HM.out, HBB.out⟩
end Go.Proofs.YtnkfdpnommjlcaaGreatDoor
/- The machine, told by plain values; what an instruction makes of it. -/

namespace Go.Proofs.YtnkfdpnommjlcaaGreatDoor
open Go.RowKit Go.ChangeShapes Go.WideShapes Go.ChangeAt Go.Deep

/-- The machine, plain; the stack's last value first. -/
structure PM where
  fn : Nat
  pc : Nat
  fu : Nat
  sk : List Int
  lo : List Int
  kd : Int
  wt : Bool
  ek : Int
  ef : Int
  ei : Int
  es : Nat
  ar : List Int
  er : Int
  ev : Int
def PM.mc (s : PM) (j : JV) (sv lv av : Value) : Mc := ⟨(s.fn : Int), (s.pc : Int), (s.fu : Int), sv, lv, s.kd, s.wt, j, s.ek, s.ef, s.ei, (s.es : Int), av, s.er, s.ev⟩
def MachP (B : Bd) (w : World) (m : Nat) (j : JV) (s : PM) : Prop := ∃ sv lv av, Mach B w m (s.mc j sv lv av) s.sk.reverse s.lo s.ar
/-- An instruction; its second part: what goes up. none: it cannot be done. -/
def doM (fs : List Fun) (deep : Int) (s : PM) (op n : Int) : Option (PM × Option (Int × Int)) :=
  if op = 14 then (if 0 ≤ n then some ({ s with pc := n.toNat }, none) else none)
  else if op = 15 then
    (match s.sk with
    | x :: r => if x = 0 then (if 0 ≤ n then some ({ s with pc := n.toNat, sk := r }, none) else none) else some ({ s with pc := s.pc + 1, sk := r }, none)
    | [] => none)
  else if op = 16 then
    if deep < 12 then
      if s.kd < 16 then
        (if 0 ≤ n then
          (match fs[n.toNat]? with
          | some g => if 0 ≤ g.args ∧ g.args.toNat ≤ s.sk.length then some ({ s with ek := 1, ef := n, ei := s.kd, ar := (s.sk.take g.args.toNat).reverse, sk := s.kd :: s.sk.drop g.args.toNat, kd := s.kd + 1, pc := s.pc + 1 }, none) else none
          | none => none)
        else none)
      else some (s, some (23, 0))
    else some (s, some (22, 0))
  else if op = 17 then
    (match s.sk with
    | x :: _ => if hasB s.kd x = true then some ({ s with wt := true, ek := 2, ei := x }, none) else some (s, some (24, 0))
    | [] => none)
  else if op = 18 then (match s.sk with | x :: _ => some ({ s with ek := 3, er := 0, ev := x }, none) | [] => none)
  else if op = 19 then (match s.sk with | x :: _ => some (s, some (25, x)) | [] => none)
  else if op = 5 then
    (if 0 ≤ n then (match s.lo[n.toNat]? with | some v => some ({ s with sk := v :: s.sk, pc := s.pc + 1 }, none) | none => none) else none)
  else if op = 6 then
    (if 0 ≤ n ∧ n.toNat < s.lo.length then (match s.sk with | x :: r => some ({ s with lo := s.lo.set n.toNat x, sk := r, pc := s.pc + 1 }, none) | [] => none) else none)
  else
    (match plL op n s.sk with
    | some (some sk') => some ({ s with sk := sk', pc := s.pc + 1 }, none)
    | some none => some (s, some (20, 0))
    | none => none)
/-- How great the machine's numbers are. -/
def PM.small (s : PM) : Prop := s.fu ≤ 100000 ∧ s.es ≤ 100000 ∧ s.pc ≤ 100000 ∧ s.sk.length ≤ 10000 ∧ 0 ≤ s.kd ∧ s.kd ≤ 16 ∧ s.lo.length ≤ 10000
instance (s : PM) : Decidable s.small := by unfold PM.small; infer_instance
/-- One step. -/
def stepM (fs : List Fun) (jf deep : Int) (s : PM) : Option (PM × Option (Int × Int)) :=
  if (s.fu : Int) < jf then
    if s.small then
      (match fs[s.fn]? with
      | some f => (match f.code[s.pc]? with
        | some (op, n) => doM fs deep { s with fu := s.fu + 1, es := s.es + 1 } op n
        | none => none)
      | none => none)
    else none
  else some (s, some (21, 0))
/-- Step by step, until there is an event, or the steps are done, or something goes up. -/
def runM (fs : List Fun) (jf deep steps : Int) : Nat → PM → Option (PM × Option (Int × Int))
  | 0, s => if s.ek = 0 ∧ (s.es : Int) < steps then none else some (s, none)
  | n + 1, s => if s.ek = 0 ∧ (s.es : Int) < steps then
      (match stepM fs jf deep s with
      | some (t, none) => runM fs jf deep steps n t
      | q => q)
    else some (s, none)
/-- What stands in the end: what went up is its event. -/
def finM : PM × Option (Int × Int) → PM
  | (s, none) => s
  | (s, some (e, v)) => { s with ek := 3, er := e, ev := v }
/-- How a call ends: it answers nothing, or something goes up. -/
def upM : Option (Int × Int) → Ending
  | none => .returned (.tuple #[])
  | some (e, v) => upF e v
def UpPost (B : Bd) (w : World) (m : Nat) (j : JV) (q : PM × Option (Int × Int)) (e : Ending) (w' : World) : Prop := e = upM q.2 ∧ MachP B w' m j q.1 ∧ Below B w w'
end Go.Proofs.YtnkfdpnommjlcaaGreatDoor
