/- The reference's reader in memory. -/
import Derived.Test.YtfnloomcianbiaaGreatDoorLines
import Derived.Test.YtfnloomcianbiaaGreatDoorRefN
import Derived.Test.YtfnloomcianbiaaGreatDoorRefP
import Derived.Test.YtfnloomcianbiaaGreatDoorAlive
namespace Go.Proofs.YtfnloomcianbiaaGreatDoor
open Go.RowKit Go.ChangeShapes Go.WideShapes Go.ChangeAt Go.Deep

def Use.late (u : Use) : List Value := [.int .i64 u.line, .int .i64 u.i, .int .i64 u.k, .string u.name]
def lateV (us : List Use) : List Value := us.flatMap Use.late
theorem Tryz.info61 : (Tryz.prog.info? 61).map (fun i => (i.zero, i.size, i.bytes)) = some (some (.agg #[.int .i64 0, .int .i64 0, .int .i64 0, .string ⟨#[]⟩]), 4, 40) := by kernel_rfl
structure Rf (B : Nat) (w : World) (b : Nat) (fv av uv : Value) (cs : List Value) (st : St) : Prop where
  nine : 9 ≤ B
  le : B ≤ b
  self : w.heap[b]? = some (.cells [fv, .int .i64 st.main, av, .int .i64 st.fuel, .int .i64 st.tasks, uv].toArray 58 (0, 0))
  len : cs.length = st.funcs.length
  fns : w.ownsRow B 45 4 fv st.funcs.length (funV (frs st.funcs cs))
  codes : ∀ i (h : i < cs.length) (h' : i < st.funcs.length), w.ownsRow B 42 2 cs[i] st.funcs[i].code.length (insV st.funcs[i].code)
  apart : cs.Pairwise Apart
  args : w.ownsRow B 3 1 av st.args.length (iV st.args)
  uses : w.ownsRow B 61 4 uv st.uses.length (lateV st.uses)

theorem Rf.keep {B : Nat} {w w' : World} {b : Nat} {fv av uv : Value} {cs : List Value} {st : St} (h : Rf B w b fv av uv cs st) (hb : Below w.heap.size w w') : Rf B w' b fv av uv cs st :=
  ⟨h.nine, h.le, by rw [hb.block b (lt_row h.self)]; exact h.self, h.len, own_keep h.fns hb, fun i hi hi' => own_keep (h.codes i hi hi') hb, h.apart, own_keep h.args hb, own_keep h.uses hb⟩

theorem Rf.turn {B : Nat} {w w' : World} {b : Nat} {fv av uv : Value} {cs : List Value} {st : St} (h : Rf B w b fv av uv cs st) (hg : w.grownBy w' (some b)) {main fuel tasks : Int}
    (hs : w'.heap[b]? = some (.cells [fv, .int .i64 main, av, .int .i64 fuel, .int .i64 tasks, uv].toArray 58 (0, 0))) :
    Rf B w' b fv av uv cs { st with main := main, fuel := fuel, tasks := tasks } := by
  have hne : ∀ e, e ≠ 58 → ∀ cur, w.heap[b]? ≠ some (.cells cur e (0, 0)) := fun e he cur hc => by
    rw [h.self] at hc
    injection hc with e1
    injection e1 with _ e2 _
    exact he e2.symm
  exact ⟨h.nine, h.le, hs, h.len, own_far h.fns hg (hne 45 (by decide)), fun i hi hi' => own_far (h.codes i hi hi') hg (hne 42 (by decide)), h.apart, own_far h.args hg (hne 3 (by decide)), own_far h.uses hg (hne 61 (by decide))⟩

theorem Rf.below {B : Nat} {w w' : World} {b : Nat} {fv av uv : Value} {cs : List Value} {st : St} (h : Rf B w b fv av uv cs st) (hg : w.grownBy w' (some b)) (hB : B ≤ w.heap.size) : Below B w w' :=
  (Below.refl _ _).grown hg hB (fun k hk => by cases hk; exact h.le)

theorem Rf.env {B : Nat} {w w' : World} {b : Nat} {fv av uv : Value} {cs : List Value} {st : St} (h : Rf B w b fv av uv cs st) (hE : Env w) (hb : Below B w w') : Env w' := hE.on hb h.nine

theorem Rf.cells {B : Nat} {w : World} {b : Nat} {fv av uv : Value} {cs : List Value} {st : St} (h : Rf B w b fv av uv cs st) : w.cell? ⟨b, 0, none⟩ = some fv ∧ w.cell? ⟨b, 1, none⟩ = some (.int .i64 st.main) ∧ w.cell? ⟨b, 2, none⟩ = some av ∧ w.cell? ⟨b, 3, none⟩ = some (.int .i64 st.fuel) ∧ w.cell? ⟨b, 4, none⟩ = some (.int .i64 st.tasks) ∧ w.cell? ⟨b, 5, none⟩ = some uv :=
  ⟨cell_row h.self rfl, cell_row h.self rfl, cell_row h.self rfl, cell_row h.self rfl, cell_row h.self rfl, cell_row h.self rfl⟩

theorem Rf.unfrozen {B : Nat} {w : World} {b : Nat} {fv av uv : Value} {cs : List Value} {st : St} (h : Rf B w b fv av uv cs st) (i : Nat) : w.frozen? ⟨b, i, none⟩ = false := frozen_row h.self

theorem Rf.use {B : Nat} {w w1 w2 : World} {b : Nat} {fv av uv uv2 : Value} {cs : List Value} {st : St} (h : Rf B w b fv av uv cs st) (u : Use) (hb : Below w.heap.size w w1) (hB : B ≤ w.heap.size)
    (ho : w2.ownsRow B 61 4 uv2 (st.uses.length + 1) (lateV st.uses ++ u.late)) (hg : w1.grownBy w2 uv.ownBlock) :
    Rf B (w2.setCell ⟨b, 5, none⟩ uv2) b fv av uv2 cs { st with uses := st.uses ++ [u] } ∧ Below B w (w2.setCell ⟨b, 5, none⟩ uv2) := by
  have h1 := h.keep hb
  have hs2 := grown_heap hg h1.uses h1.self (by decide)
  have hs3 := set_row (i := 5) hs2 uv2
  have hg3 := grown_setCell w2 b 5 uv2
  have f : ∀ {e k n : Nat} {v : Value} {xs : List Value}, w1.ownsRow B e k v n xs → e ≠ 61 → e ≠ 58 → (w2.setCell ⟨b, 5, none⟩ uv2).ownsRow B e k v n xs := fun ho he he' =>
    own_far (own_apart ho h1.uses he hg) hg3 (fun cur => tag_ne hs2 (Ne.symm he'))
  refine ⟨⟨h.nine, h.le, hs3, h.len, f h1.fns (by decide) (by decide), fun i hi hi' => f (h1.codes i hi hi') (by decide) (by decide), h.apart, f h1.args (by decide) (by decide), ?_⟩, ?_⟩
  · have := own_far ho hg3 (fun cur => tag_ne hs2 (by decide))
    simpa [lateV] using this
  · exact ((hb.mono hB).grown hg (Nat.le_trans hB hb.size) (fun k hk => (h1.uses.lt k hk).1)).setCell (p := ⟨b, 5, none⟩) h.le _

theorem Rf.setArgs {B : Nat} {w : World} {b : Nat} {fv av uv v : Value} {cs : List Value} {st : St} (h : Rf B w b fv av uv cs st) (vs : List Int) (ho : w.ownsRow B 3 1 v vs.length (iV vs)) : Rf B (w.setCell ⟨b, 2, none⟩ v) b fv v uv cs { st with args := vs } := by
  have hs := set_row (i := 2) h.self v
  have hg := grown_setCell w b 2 v
  have f : ∀ {e k n : Nat} {v' : Value} {xs : List Value}, w.ownsRow B e k v' n xs → e ≠ 58 → (w.setCell ⟨b, 2, none⟩ v).ownsRow B e k v' n xs := fun ho he => own_far ho hg (fun cur => tag_ne h.self (Ne.symm he))
  exact ⟨h.nine, h.le, hs, h.len, f h.fns (by decide), fun i hi hi' => f (h.codes i hi hi') (by decide), h.apart, f ho (by decide), f h.uses (by decide)⟩

theorem Rf.freads {B : Nat} {w : World} {b : Nat} {fv av uv : Value} {cs : List Value} {st : St} (h : Rf B w b fv av uv cs st) : ∃ fa fc, fv = .slice fa st.funcs.length fc ∧ FReads w fa (frs st.funcs cs) := by
  have hl : (frs st.funcs cs).length = st.funcs.length := by simp [frs, h.len]
  rcases h.fns.2 with ⟨rfl, e⟩ | ⟨g, cap, cur, rfl, _, hh, _⟩
  · exact ⟨none, 0, by rw [e], .inl ⟨rfl, List.eq_nil_of_length_eq_zero (by omega)⟩⟩
  · refine ⟨_, cap, rfl, .inr ⟨g, 0, rfl, lt_row hh, fun j hj i v hv => ?_⟩⟩
    have hi : i < 4 := by
      rcases Nat.lt_or_ge i 4 with h | h
      · exact h
      · rw [List.getElem?_eq_none (by simpa [FR.enc] using h)] at hv; cases hv
    have := h.fns.cells (g := g) rfl (j * 4 + i) v ?_
    · rw [add_none] at this
      rw [← this]; congr 2; omega
    · have key : ∀ (l : List FR) (j : Nat), j < l.length → (funV l)[j * 4 + i]? = (FR.enc l[j]!)[i]? := fun l => by
        induction l with
        | nil => intro j hj; simp at hj
        | cons x r ih =>
          intro j hj
          cases j with
          | zero =>
            show (FR.enc x ++ funV r)[0 * 4 + i]? = _
            rw [List.getElem?_append_left (by simp [FR.enc]; omega)]
            simp
          | succ j =>
            show (FR.enc x ++ funV r)[(j + 1) * 4 + i]? = _
            rw [List.getElem?_append_right (by simp [FR.enc]; omega)]
            have e1 : (j + 1) * 4 + i - (FR.enc x).length = j * 4 + i := by simp [FR.enc]; omega
            rw [e1, ih j (by simpa using hj)]
            simp
      rw [key _ _ hj]; exact hv

theorem Rf.func {B : Nat} {w w1 w2 : World} {b : Nat} {fv av uv fv2 : Value} {cs : List Value} {st : St} (h : Rf B w b fv av uv cs st) (nm : ByteArray) (x y : Int) (hb : Below w.heap.size w w1) (hB : B ≤ w.heap.size)
    (ho : w2.ownsRow B 45 4 fv2 (st.funcs.length + 1) (funV (frs st.funcs cs) ++ [.string nm, .int .i64 x, .int .i64 y, .slice none 0 0])) (hg : w1.grownBy w2 fv.ownBlock) :
    Rf B (w2.setCell ⟨b, 0, none⟩ fv2) b fv2 av uv (cs ++ [.slice none 0 0]) { st with funcs := st.funcs ++ [⟨nm, x, y, []⟩] } ∧ Below B w (w2.setCell ⟨b, 0, none⟩ fv2) := by
  have h1 := h.keep hb
  have hs2 := grown_heap hg h1.fns h1.self (by decide)
  have hs3 := set_row (i := 0) hs2 fv2
  have hg3 := grown_setCell w2 b 0 fv2
  have f : ∀ {e k n : Nat} {v : Value} {xs : List Value}, w1.ownsRow B e k v n xs → e ≠ 45 → e ≠ 58 → (w2.setCell ⟨b, 0, none⟩ fv2).ownsRow B e k v n xs := fun ho he he' =>
    own_far (own_apart ho h1.fns he hg) hg3 (fun cur => tag_ne hs2 (Ne.symm he'))
  refine ⟨⟨h.nine, h.le, hs3, by simp [h.len], ?_, ?_, ?_, f h1.args (by decide) (by decide), f h1.uses (by decide) (by decide)⟩, ?_⟩
  · have := own_far ho hg3 (fun cur => tag_ne hs2 (by decide))
    have e : funV (frs (st.funcs ++ [(⟨nm, x, y, []⟩ : Fun)]) (cs ++ [.slice none 0 0])) = funV (frs st.funcs cs) ++ [.string nm, .int .i64 x, .int .i64 y, .slice none 0 0] := by
      unfold frs
      rw [List.zipWith_append h.len.symm]
      simp [funV, Fun.row, FR.enc]
    show World.ownsRow _ B 45 4 fv2 (st.funcs ++ [(⟨nm, x, y, []⟩ : Fun)]).length _
    rw [e]
    simpa using this
  · intro i hi hi'
    rcases Nat.lt_or_ge i st.funcs.length with hlt | hge
    · have e1 : (cs ++ [.slice none 0 0])[i] = cs[i]'(by rw [h.len]; exact hlt) := List.getElem_append_left _
      have e2 : (st.funcs ++ [(⟨nm, x, y, []⟩ : Fun)])[i] = st.funcs[i] := List.getElem_append_left _
      simp only [e1, e2]
      exact f (h1.codes i (by rw [h.len]; exact hlt) hlt) (by decide) (by decide)
    · have hi2 : i = st.funcs.length := by simp at hi'; omega
      subst hi2
      have e1 : (cs ++ [.slice none 0 0])[st.funcs.length] = .slice none 0 0 := by simp [← h.len]
      have e2 : (st.funcs ++ [(⟨nm, x, y, []⟩ : Fun)])[st.funcs.length] = ⟨nm, x, y, []⟩ := by simp
      simp only [e1, e2]
      exact World.ownsRow_nil _ _ _ _
  · rw [List.pairwise_append]
    refine ⟨h.apart, by simp, fun a _ c hc => ?_⟩
    simp only [List.mem_singleton] at hc
    subst hc
    intro p q _ hq
    cases hq
  · exact ((hb.mono hB).grown hg (Nat.le_trans hB hb.size) (fun k hk => (h1.fns.lt k hk).1)).setCell (p := ⟨b, 0, none⟩) h.le _

theorem Rf.codeAdd {B : Nat} {w w1 w2 : World} {b fg m fc : Nat} {av uv cl cl2 : Value} {cs cd : List Value} {st : St} {fs : List Fun} {f : Fun} (h : Rf B w b (.slice (some ⟨fg, 0, none⟩) (m + 1) fc) av uv cs st) (hfs : st.funcs = fs ++ [f]) (hm : m = fs.length) (hcs : cs = cd ++ [cl]) (op x : Int) (hb : Below w.heap.size w w1) (hB : B ≤ w.heap.size)
    (ho : w2.ownsRow B 42 2 cl2 (f.code.length + 1) (insV f.code ++ [.int .i64 op, .int .i64 x])) (hg : w1.grownBy w2 cl.ownBlock)
    (hnew : ∀ q, cl2.ownBlock = some q → w1.heap.size ≤ q ∨ ∃ p, cl.ownBlock = some p ∧ p ≤ q) :
    Rf B (w2.setCell ⟨fg, m * 4 + 3, none⟩ cl2) b (.slice (some ⟨fg, 0, none⟩) (m + 1) fc) av uv (cd ++ [cl2]) { st with funcs := fs ++ [{ f with code := f.code ++ [(op, x)] }] } ∧ Below B w (w2.setCell ⟨fg, m * 4 + 3, none⟩ cl2) := by
  subst hcs
  have h1 := h.keep hb
  have hlen : cd.length = fs.length := by have := h.len; rw [hfs] at this; simpa using this
  have hcl : w1.ownsRow B 42 2 cl f.code.length (insV f.code) := by
    have := h1.codes cd.length (by simp) (by rw [hfs, hlen]; simp)
    simp only [hfs] at this
    simpa [hlen] using this
  have hs2 := grown_heap hg hcl h1.self (by decide)
  obtain ⟨fcur, hfcur⟩ := own_tag h1.fns (g := fg) rfl
  have hf2 : w2.heap[fg]? = some (.cells fcur 45 (0, 0)) := grown_heap hg hcl hfcur (by decide)
  have hg3 := grown_setCell w2 fg (m * 4 + 3) cl2
  have k3 : ∀ {e k n : Nat} {v : Value} {xs : List Value}, w2.ownsRow B e k v n xs → e ≠ 45 → (w2.setCell ⟨fg, m * 4 + 3, none⟩ cl2).ownsRow B e k v n xs := fun ho he =>
    own_far ho hg3 (fun cur => tag_ne hf2 (Ne.symm he))
  have kk : ∀ {e k n : Nat} {v : Value} {xs : List Value}, w1.ownsRow B e k v n xs → e ≠ 42 → e ≠ 45 → (w2.setCell ⟨fg, m * 4 + 3, none⟩ cl2).ownsRow B e k v n xs := fun ho he he' => k3 (own_apart ho hcl he hg) he'
  have hbf : fg ≠ b := fun e => by
    rw [e] at hfcur
    exact tag_ne hfcur (by decide) h1.self
  have hap := List.pairwise_append.1 h.apart
  have hfl : st.funcs.length = m + 1 := by rw [hfs, hm]; simp
  refine ⟨⟨h.nine, h.le, ?_, by simp [hlen], ?_, ?_, ?_, kk h1.args (by decide) (by decide), kk h1.uses (by decide) (by decide)⟩, ?_⟩
  · rw [Below.heap_setCell _ _ _ _ (by simpa using hbf.symm)]
    exact hs2
  · have hf := own_apart h1.fns hcl (by decide) hg
    have := own_set (j := m * 4 + 3) (u := cl2) hf (g := fg) rfl
    rw [hfs, hm, funV_set fs f cd cl cl2 hlen (f.code ++ [(op, x)])] at this
    rw [hm]
    simpa using this
  · intro i hi hi'
    rcases Nat.lt_or_ge i fs.length with hlt | hge
    · have e1 : (cd ++ [cl2])[i] = cd[i]'(by rw [hlen]; exact hlt) := List.getElem_append_left _
      have e2 : (fs ++ [{ f with code := f.code ++ [(op, x)] }])[i] = fs[i] := List.getElem_append_left _
      have h3 := h1.codes i (by simp; omega) (by rw [hfs]; simp; omega)
      have e3 : (cd ++ [cl])[i]'(by simp; omega) = cd[i]'(by rw [hlen]; exact hlt) := List.getElem_append_left _
      have e4 : st.funcs[i]'(by rw [hfs]; simp; omega) = fs[i] := by simp only [hfs]; exact List.getElem_append_left _
      rw [e3, e4] at h3
      simp only [e1, e2]
      refine k3 (h3.kept hg ?_) (by decide)
      exact (hap.2.2 _ (List.getElem_mem _) cl (by simp)).ne
    · have hi2 : i = fs.length := by simp at hi'; omega
      subst hi2
      have e1 : (cd ++ [cl2])[fs.length] = cl2 := by simp [← hlen]
      have e2 : (fs ++ [{ f with code := f.code ++ [(op, x)] }])[fs.length] = { f with code := f.code ++ [(op, x)] } := by simp
      simp only [e1, e2]
      have := k3 ho (by decide)
      simpa [insV] using this
  · rw [List.pairwise_append]
    refine ⟨hap.1, by simp, fun a ha c hc => ?_⟩
    simp only [List.mem_singleton] at hc
    subst hc
    intro p q hp hq
    rcases hnew q hq with h5 | ⟨p', hp', hle⟩
    · obtain ⟨i, hi, hai⟩ := List.getElem_of_mem ha
      have h3 := h1.codes i (by simp; omega) (by rw [hfl, hm, ← hlen]; omega)
      have e3 : (cd ++ [cl])[i]'(by simp; omega) = a := by rw [List.getElem_append_left hi]; exact hai
      rw [e3] at h3
      have := (h3.lt p hp).2
      omega
    · have := hap.2.2 a ha cl (by simp) p p' hp hp'
      omega
  · exact ((hb.mono hB).grown hg (Nat.le_trans hB hb.size) (fun k hk => (hcl.lt k hk).1)).setCell (p := ⟨fg, m * 4 + 3, none⟩) (by have := (h1.fns.lt fg rfl).1; exact this) _

theorem Rf.setN {B : Nat} {w : World} {b : Nat} {fv av uv : Value} {cs : List Value} {st : St} (h : Rf B w b fv av uv cs st) (i k cg : Nat) (f : Fun) (x : Int × Int) (hi : i < cs.length) (hf : st.funcs[i]? = some f) (hx : f.code[k]? = some x) (hcg : cs[i].ownBlock = some cg) (n : Int) :
    Rf B (w.setCell ⟨cg, k * 2 + 1, none⟩ (.int .i64 n)) b fv av uv cs (st.setN i k n) ∧ Below B w (w.setCell ⟨cg, k * 2 + 1, none⟩ (.int .i64 n)) := by
  have hi' : i < st.funcs.length := by rw [← h.len]; exact hi
  have hfe : st.funcs[i] = f := by rw [List.getElem?_eq_getElem hi'] at hf; exact Option.some.inj hf
  have hc := h.codes i hi hi'
  rw [hfe] at hc
  obtain ⟨cur, hcur⟩ := own_tag hc hcg
  have hg := grown_setCell w cg (k * 2 + 1) (.int .i64 n)
  have far : ∀ {e k' n' : Nat} {v : Value} {xs : List Value}, w.ownsRow B e k' v n' xs → e ≠ 42 → (w.setCell ⟨cg, k * 2 + 1, none⟩ (.int .i64 n)).ownsRow B e k' v n' xs := fun ho he => own_far ho hg (fun c => tag_ne hcur (Ne.symm he))
  have hbc : b ≠ cg := fun e => by
    have h1 := h.self
    rw [e] at h1
    exact tag_ne h1 (by decide) hcur
  refine ⟨⟨h.nine, h.le, ?_, by simp [St.setN, h.len], ?_, ?_, h.apart, far h.args (by decide), far h.uses (by decide)⟩, ?_⟩
  · rw [Below.heap_setCell _ _ _ _ (by simpa using hbc)]
    exact h.self
  · show World.ownsRow _ B 45 4 fv (st.funcs.modify i fun f => f.setN k n).length (funV (frs (st.funcs.modify i fun f => f.setN k n) cs))
    rw [frs_modify, List.length_modify]
    exact far h.fns (by decide)
  · intro j hj hj'
    have hj2 : j < st.funcs.length := by rw [← h.len]; exact hj
    have e2 : (st.setN i k n).funcs[j]'hj' = if i = j then (st.funcs[j]).setN k n else st.funcs[j] := by
      simp [St.setN, List.getElem_modify]
    rw [e2]
    by_cases hij : i = j
    · subst hij
      rw [if_pos rfl, hfe]
      have h1 := own_set (j := k * 2 + 1) (u := .int .i64 n) hc hcg
      rw [insV_set f.code k n x hx] at h1
      have e3 : (f.setN k n).code = f.code.set k (x.1, n) := by
        apply List.ext_getElem?
        intro q
        simp only [Fun.setN, List.getElem?_modify, List.getElem?_set]
        by_cases hq : k = q
        · subst hq
          have : k < f.code.length := by
            rcases Nat.lt_or_ge k f.code.length with h | h
            · exact h
            · rw [List.getElem?_eq_none h] at hx; cases hx
          have hxe : f.code[k] = x := by rw [List.getElem?_eq_getElem this] at hx; exact Option.some.inj hx
          simp [this, hxe]
        · simp [hq]
      rw [e3]
      simpa using h1
    · rw [if_neg hij]
      refine (h.codes j hj hj2).kept hg ?_
      rcases Nat.lt_or_ge j i with hlt | hge
      · have hp := (List.pairwise_iff_getElem.1 h.apart) j i hj hi hlt
        rw [← hcg]
        exact hp.ne
      · have hp := (List.pairwise_iff_getElem.1 h.apart) i j hi hj (by omega)
        cases hv : cs[j].ownBlock with
        | none => exact .inl rfl
        | some q =>
          refine .inr (fun e => ?_)
          have := hp cg q hcg hv
          simp at e
          omega
  · exact (Below.refl _ _).setCell (p := ⟨cg, k * 2 + 1, none⟩) ((hc.lt cg hcg).1) _

theorem Rf.result {B : Nat} {w w' : World} {b q : Nat} {fv av uv : Value} {cs : List Value} {st : St} (h : Rf B w b fv av uv cs st) (hg : w.grownBy w' (some q)) (hq : q < B) (h5 : Box5 w q) : Rf B w' b fv av uv cs st := by
  have f : ∀ {e k n : Nat} {v : Value} {xs : List Value}, w.ownsRow B e k v n xs → e ≠ 25 → w'.ownsRow B e k v n xs := fun ho he => own_far ho hg (fun cur => tag_ne h5 (Ne.symm he))
  refine ⟨h.nine, h.le, ?_, h.len, f h.fns (by decide), fun i hi hi' => f (h.codes i hi hi') (by decide), h.apart, f h.args (by decide), f h.uses (by decide)⟩
  rw [hg.block b (lt_row h.self) (fun e => by have := h.le; cases e; omega)]
  exact h.self

theorem Rf.job {B : Nat} {w : World} {b : Nat} {fv av uv : Value} {cs : List Value} {st : St} (h : Rf B w b fv av uv cs st) : ∃ fa fc aa ac, fv = .slice fa st.funcs.length fc ∧ av = .slice aa st.args.length ac ∧ JobR w ⟨fa, st.funcs.length, fc, st.main, aa, st.args.length, ac, st.fuel, st.tasks⟩ cs st.funcs st.args := by
  obtain ⟨fa, fc, rfl, hfr⟩ := h.freads
  obtain ⟨aa, ac, rfl⟩ := own_any h.args
  refine ⟨fa, fc, aa, ac, rfl, rfl, rfl, ?_, h.len, hfr, fun i hi hi' => ?_, rfl, ?_⟩
  · rcases h.fns.2 with ⟨e, e0⟩ | ⟨g, cap, cur, e, _, _, hle, _⟩
    · injection e with _ e1 e2
      show st.funcs.length ≤ fc
      omega
    · injection e with _ _ e2
      show st.funcs.length ≤ fc
      omega
  · have hc := h.codes i hi hi'
    rcases hc.2 with ⟨e, e0⟩ | ⟨g, cap, cur, e, _⟩
    · exact ⟨none, 0, by rw [e, e0], .inl (by rw [List.eq_nil_of_length_eq_zero e0]; rfl)⟩
    · exact ⟨_, cap, e, .inr ⟨g, 0, rfl, fun q u hu => by
        have := hc.cells (g := g) (by rw [e]; rfl) q u hu
        rwa [add_none] at this⟩⟩
  · rcases h.args.2 with ⟨e, e0⟩ | ⟨g, cap, cur, e, _⟩
    · exact .inl (by rw [List.eq_nil_of_length_eq_zero e0]; rfl)
    · injection e with e1 _ _
      refine .inr ⟨g, 0, e1, fun q u hu => ?_⟩
      have := h.args.cells (g := g) (by rw [e1]; rfl) q u hu
      rwa [add_none] at this

end Go.Proofs.YtfnloomcianbiaaGreatDoor
