/- The machine in memory; its stack. -/
import Derived.Test.YtnkfdpnommjlcaaGreatDoorRow
import Derived.Test.YtnkfdpnommjlcaaGreatDoorNew
import Derived.Deep.DeepAppendRoom
import Derived.ArgAppend
namespace Go.Proofs.YtnkfdpnommjlcaaGreatDoor
open Go.RowKit Go.ChangeShapes Go.WideShapes Go.ChangeAt Go.Deep

/-- 'append(v, y...)', run, and where the row is then. -/
theorem run_append_where (w : World) (B : Nat) (v : Value) (n : Nat) (xs ys : List Int) (ad : Option Addr) (m c : Nat) (hown : w.ownsRow B 3 1 v n (iV xs)) (hnil : ad = none → m = 0 ∧ c = 0) (hl : ys.length = m) (hr : Reads w ad (iV ys)) (hb : n + m ≤ 1000000) (hB : B ≤ w.heap.size) :
    ∃ v' w', (Builtin.append_ #[23, 23] 23 #[v, .slice ad m c]).run Tryz.prog w = .ok v' w' ∧ w'.ownsRow B 3 1 v' (n + m) (iV (xs ++ ys)) ∧ w.grownBy w' v.ownBlock ∧ (v'.ownBlock = v.ownBlock ∨ ∀ g, v'.ownBlock = some g → w.heap.size ≤ g) := by
  obtain ⟨i0, hi, hz0, hz1, hz2⟩ := info_parts Tryz.info3
  cases ad with
  | none =>
    obtain ⟨rfl, rfl⟩ := hnil rfl
    have hy : ys = [] := by cases ys with | nil => rfl | cons _ _ => simp at hl
    subst hy
    exact ⟨v, w, run_append_owned_none (P := Tryz.prog) (w := w) B 23 23 3 i0 1 Tryz.underlying23 hi v n (iV xs) hown, by simpa using hown, ⟨rfl, rfl, rfl, Nat.le_refl _, fun _ _ _ => rfl⟩, .inl rfl⟩
  | some a =>
    have hcells : ∀ j u, (iV ys)[j]? = some u → w.cell? (a.add j) = some u := by
      rcases hr with hr | ⟨b, off, e, hr⟩
      · rw [hr]; simp
      · simp at e
        subst e
        intro j u hu
        rw [add_none]; exact hr j u hu
    rcases hown.2 with ⟨rfl, h0⟩ | ⟨g, cap, cur, rfl, h1, h2, h3, h4, h5, h6⟩
    · subst h0
      obtain ⟨v', w', q1, q2, q3, _⟩ := run_append_own (P := Tryz.prog) w w.heap.size 23 23 3 i0 (.int .i64 0) 1 8 Tryz.underlying23 hi hz0 hz1 hz2 rfl (by decide) (.slice none 0 0) 0 (iV xs) (by
        have : xs = [] := List.eq_nil_of_length_eq_zero (by have := hown.1; simpa [iV] using this)
        subst this
        exact World.ownsRow_nil w _ 3 1) a m c (iV ys) (by rw [iV_len]; omega) hcells (iV_one ys) (by unfold maxLen; omega) (by omega) (Nat.le_refl _)
      exact ⟨v', w', q1, by rw [iV_app]; exact own_monoI q2 hB, q3, .inr (fun g hg => (q2.lt g hg).1)⟩
    · by_cases hroom : n + m ≤ cap
      · obtain ⟨w', q1, q2, q3⟩ := run_append_own_spare (P := Tryz.prog) w B 23 23 3 i0 1 Tryz.underlying23 hi hz1 g n cap (iV xs) hown a m c (iV ys) (by rw [iV_len]; omega) hcells (iV_one ys) hroom
        exact ⟨_, w', q1, by rw [iV_app]; exact q2, q3, .inl rfl⟩
      · obtain ⟨v', w', q1, q2, q3⟩ := run_append_arg_grows (P := Tryz.prog) w 23 23 3 i0 (.int .i64 0) 1 8 Tryz.underlying23 hi hz0 hz1 hz2 rfl (by decide) ⟨g, 0, none⟩ n cap (iV xs) (by have := hown.1; omega) (fun j u hu => hown.cells (g := g) rfl j u hu) a m c (iV ys) (by rw [iV_len]; omega) hcells (by omega) (by unfold maxLen; omega) (by omega)
        exact ⟨v', w', q1, by rw [iV_app]; exact own_monoI q2 hB, ⟨q3.os, q3.tape, q3.output, q3.size, fun k hk _ => q3.block k hk (by simp)⟩, .inr (fun g hg => (q2.lt g hg).1)⟩

/-- The machine's values. -/
structure Mc where
  fn : Int
  pc : Int
  fu : Int
  sv : Value
  lv : Value
  kd : Int
  wt : Bool
  j : JV
  ek : Int
  ef : Int
  ei : Int
  es : Int
  av : Value
  er : Int
  ev : Int
def Mc.row (M : Mc) : List Value := [.int .i64 M.fn, .int .i64 M.pc, .int .i64 M.fu, M.sv, M.lv, .int .i64 M.kd, .bool M.wt, .slice M.j.fa M.j.nf M.j.fc, .int .i64 M.j.main, .slice M.j.aa M.j.na M.j.ac, .int .i64 M.j.fuel, .int .i64 M.j.tasks, .int .i64 M.ek, .int .i64 M.ef, .int .i64 M.ei, .int .i64 M.es, M.av, .int .i64 M.er, .int .i64 M.ev]
/-- How far down the machine's own memory goes; and a box of a pointer that stays. -/
structure Bd where
  n : Nat
  bx : Option (Nat × Value)
instance : Coe Bd Nat := ⟨Bd.n⟩
/-- The machine in memory: its block, its rows of numbers, which are rows of their own. -/
structure Mach (B : Bd) (w : World) (m : Nat) (M : Mc) (st lo ar : List Int) : Prop where
  at_ : w.heap[m]? = some (.cells M.row.toArray 104 (0, 0))
  bm : B ≤ m
  own : w.ownsRow B 3 1 M.sv st.length (iV st)
  loc : w.ownsRow B 3 1 M.lv lo.length (iV lo)
  arg : w.ownsRow B 3 1 M.av ar.length (iV ar)
  sl : ∀ g, M.sv.ownBlock = some g → M.lv.ownBlock ≠ some g
  sa : ∀ g, M.sv.ownBlock = some g → M.av.ownBlock ≠ some g
  la : ∀ g, M.lv.ownBlock = some g → M.av.ownBlock ≠ some g
  kept : ∀ k v, B.bx = some (k, v) → w.heap[k]? = some (.cells #[v] 66 (0, 0))
theorem Mach.cell {B : Bd} {w : World} {m : Nat} {M : Mc} {st lo ar : List Int} (h : Mach B w m M st lo ar) (i : Nat) (u : Value) (hu : M.row[i]? = some u) : w.cell? ⟨m, i, none⟩ = some u := cell_row h.at_ hu
theorem Mach.froz {B : Bd} {w : World} {m : Nat} {M : Mc} {st lo ar : List Int} (h : Mach B w m M st lo ar) (i : Nat) : w.frozen? ⟨m, i, none⟩ = false := by simp [World.frozen?, h.at_]
theorem Mach.lt {B : Bd} {w : World} {m : Nat} {M : Mc} {st lo ar : List Int} (h : Mach B w m M st lo ar) : m < w.heap.size := lt_row h.at_
theorem row_ne {w : World} {B n m : Nat} {v : Value} {xs : List Value} {c : Array Value} (h : w.ownsRow B 3 1 v n xs) (hm : w.heap[m]? = some (.cells c 104 (0, 0))) : ∀ g, v.ownBlock = some g → g ≠ m := by
  intro g hg e
  subst e
  rcases h.2 with ⟨rfl, _⟩ | ⟨g', cap, cur, rfl, _, h2, _⟩
  · cases hg
  · cases hg
    rw [h2] at hm
    simp at hm
theorem row_ne59 {w : World} {B n m : Nat} {v : Value} {xs : List Value} {c : Array Value} (h : w.ownsRow B 3 1 v n xs) (hm : w.heap[m]? = some (.cells c 66 (0, 0))) : ∀ g, v.ownBlock = some g → g ≠ m := by
  intro g hg e
  subst e
  rcases h.2 with ⟨rfl, _⟩ | ⟨g', cap, cur, rfl, _, h2, _⟩
  · cases hg
  · cases hg
    rw [h2] at hm
    simp at hm
theorem Mach.below {B : Bd} {w w' : World} {m : Nat} {M : Mc} {st lo ar : List Int} (h : Mach B w m M st lo ar) (hb : Below w.heap.size w w') : Mach B w' m M st lo ar :=
  ⟨by rw [hb.block m h.lt]; exact h.at_, h.bm, own_belowI h.own hb, own_belowI h.loc hb, own_belowI h.arg hb, h.sl, h.sa, h.la, fun k v hk => (hb.block k (lt_row (h.kept k v hk))).trans (h.kept k v hk)⟩
/-- A field of the machine that is no row is put. -/
theorem Mach.put {B : Bd} {w : World} {m : Nat} {M M' : Mc} {st lo ar : List Int} (h : Mach B w m M st lo ar) (i : Nat) (v : Value) (hr : M'.row = M.row.set i v) (h1 : M'.sv = M.sv) (h2 : M'.lv = M.lv) (h3 : M'.av = M.av) : Mach B (w.setCell ⟨m, i, none⟩ v) m M' st lo ar := by
  have hk : ∀ g, g ≠ m → (w.setCell ⟨m, i, none⟩ v).heap[g]? = w.heap[g]? := fun g hg => heap_setCell_other _ _ _ _ hg
  refine ⟨?_, h.bm, ?_, ?_, ?_, by rw [h1, h2]; exact h.sl, by rw [h1, h3]; exact h.sa, by rw [h2, h3]; exact h.la, ?_⟩
  · rw [heap_setCell_same w m i _ 104 v h.at_, hr]
    simp
  · rw [h1]; exact own_keepI h.own (fun g hg => hk g (row_ne h.own h.at_ g hg))
  · rw [h2]; exact own_keepI h.loc (fun g hg => hk g (row_ne h.loc h.at_ g hg))
  · rw [h3]; exact own_keepI h.arg (fun g hg => hk g (row_ne h.arg h.at_ g hg))
  · intro k u hku
    have hq := h.kept k u hku
    rw [hk k (fun e => by subst e; rw [h.at_] at hq; simp at hq)]
    exact hq
/-- With a box. -/
theorem Mach.box {n : Nat} {w : World} {m : Nat} {M : Mc} {st lo ar : List Int} (h : Mach ⟨n, none⟩ w m M st lo ar) (k : Nat) (v : Value) (hk : w.heap[k]? = some (.cells #[v] 66 (0, 0))) : Mach ⟨n, some (k, v)⟩ w m M st lo ar :=
  ⟨h.at_, h.bm, h.own, h.loc, h.arg, h.sl, h.sa, h.la, fun k' v' he => by
    simp only [Option.some.injEq, Prod.mk.injEq] at he
    obtain ⟨rfl, rfl⟩ := he
    exact hk⟩
end Go.Proofs.YtnkfdpnommjlcaaGreatDoor
