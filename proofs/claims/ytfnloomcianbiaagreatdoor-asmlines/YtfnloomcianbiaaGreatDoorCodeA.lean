/- takeIns. -/
import Derived.Test.YtfnloomcianbiaaGreatDoorTakeF
import Derived.Deep.Cut
namespace Go.Proofs.YtfnloomcianbiaaGreatDoor
open Go.RowKit Go.ChangeShapes Go.WideShapes Go.ChangeAt Go.Deep

/-- An instruction's line: the instruction, and a spawn's name. -/
def insLineL (ws : List ByteArray) : Option ((Int × Int) × ByteArray) :=
  match ws with
  | a :: b :: c :: r => if a.toList.isEmpty && b.toList.isEmpty then (insL c r).map fun x => (x, r.headD ⟨#[]⟩) else none
  | _ => none

def St.add (st : St) (fs : List Fun) (f : Fun) (x : (Int × Int) × ByteArray) : St :=
  { st with funcs := fs ++ [{ f with code := f.code ++ [x.1] }], uses := if x.1.1 = 16 then st.uses ++ [⟨x.2, st.line, (fs.length : Int), (f.code.length : Int)⟩] else st.uses }

def InsPost (B b : Nat) (st : St) (ws : List ByteArray) (w : World) (e : Ending) (w' : World) : Prop :=
  ∃ ok, e = .returned (.bool ok) ∧
      ((ok = true ∧ Below B w w' ∧ ∃ x fs f fv' av' uv' cs', insLineL ws = some x ∧ st.funcs = fs ++ [f] ∧ f.code.length ≠ 256 ∧ Rd B w' b fv' av' uv' cs' (st.add fs f x)) ∨
       (ok = false ∧ Below w.heap.size w w' ∧ (insLineL ws = none ∨ st.funcs = [] ∨ ∃ fs f, st.funcs = fs ++ [f] ∧ f.code.length = 256)))

theorem own_set {w : World} {B e k n g j : Nat} {v u : Value} {xs : List Value} (h : w.ownsRow B e k v n xs) (hg : v.ownBlock = some g) : (w.setCell ⟨g, j, none⟩ u).ownsRow B e k v n (xs.set j u) := by
  refine ⟨by simpa using h.1, ?_⟩
  rcases h.2 with ⟨rfl, _⟩ | ⟨g', cap, cur, rfl, h1, h2, h3, h4, h5, h6⟩
  · cases hg
  · cases hg
    refine .inr ⟨g', cap, cur.setIfInBounds j u, rfl, h1, ?_, h3, h4, by simpa using h5, ?_⟩
    · rw [heap_setCell_same _ g' j cur e u h2]
    · rw [Array.toList_setIfInBounds, List.take_set, h6]

theorem funV_set : ∀ (fs : List Fun) (f : Fun) (cd : List Value) (c c' : Value), cd.length = fs.length → ∀ (code' : List (Int × Int)), (funV (frs (fs ++ [f]) (cd ++ [c]))).set (fs.length * 4 + 3) c' = funV (frs (fs ++ [{ f with code := code' }]) (cd ++ [c']))
  | [], f, [], c, c', _, code' => by simp [funV, frs, Fun.row, FR.enc]
  | a :: fs, f, d :: cd, c, c', h, code' => by
    have ih := funV_set fs f cd c c' (by simpa using h) code'
    show (FR.enc (Fun.row a d) ++ funV (frs (fs ++ [f]) (cd ++ [c]))).set ((fs.length + 1) * 4 + 3) c' = FR.enc (Fun.row a d) ++ funV (frs (fs ++ [{ f with code := code' }]) (cd ++ [c']))
    rw [List.set_append_right _ _ (by simp [FR.enc]; omega), ← ih]
    congr 2
    simp [FR.enc]
    omega
  | [], _, _ :: _, _, _, h, _ => by cases h
  | _ :: _, _, [], _, _, h, _ => by cases h

theorem Tryz.info42 : (Tryz.prog.info? 42).map (fun i => (i.zero, i.size, i.bytes)) = some (some (.agg #[.int .i64 0, .int .i64 0]), 2, 16) := by kernel_rfl

/-- The last function's code grows. -/
theorem Rd.codeAdd {B : Nat} {w w1 w2 : World} {b fg m fc : Nat} {av uv cl cl2 : Value} {cs cd : List Value} {st : St} {fs : List Fun} {f : Fun} (h : Rd B w b (.slice (some ⟨fg, 0, none⟩) (m + 1) fc) av uv cs st) (hfs : st.funcs = fs ++ [f]) (hm : m = fs.length) (hcs : cs = cd ++ [cl]) (op x : Int) (hb : Below w.heap.size w w1) (hB : B ≤ w.heap.size)
    (ho : w2.ownsRow B 42 2 cl2 (f.code.length + 1) (insV f.code ++ [.int .i64 op, .int .i64 x])) (hg : w1.grownBy w2 cl.ownBlock)
    (hnew : ∀ q, cl2.ownBlock = some q → w1.heap.size ≤ q ∨ ∃ p, cl.ownBlock = some p ∧ p ≤ q) :
    Rd B (w2.setCell ⟨fg, m * 4 + 3, none⟩ cl2) b (.slice (some ⟨fg, 0, none⟩) (m + 1) fc) av uv (cd ++ [cl2]) { st with funcs := fs ++ [{ f with code := f.code ++ [(op, x)] }] } ∧ Below B w (w2.setCell ⟨fg, m * 4 + 3, none⟩ cl2) := by
  subst hcs
  have h1 := h.keep hb
  have hlen : cd.length = fs.length := by have := h.len; rw [hfs] at this; simpa using this
  have hcl : w1.ownsRow B 42 2 cl f.code.length (insV f.code) := by
    have := h1.codes cd.length (by simp) (by rw [hfs, hlen]; simp)
    simp only [hfs] at this
    simpa [hlen] using this
  have hs2 := grown_heap hg hcl h1.self (by decide)
  obtain ⟨fcur, hfcur⟩ := own_tag h1.fns (g := fg) rfl
  have hf2 : w2.heap[fg]? = some (.cells fcur 45 (0, 0)) := grown_heap hg hcl hfcur (by decide)
  have hg3 := grown_setCell w2 fg (m * 4 + 3) cl2
  have k3 : ∀ {e k n : Nat} {v : Value} {xs : List Value}, w2.ownsRow B e k v n xs → e ≠ 45 → (w2.setCell ⟨fg, m * 4 + 3, none⟩ cl2).ownsRow B e k v n xs := fun ho he =>
    own_far ho hg3 (fun cur => tag_ne hf2 (Ne.symm he))
  have kk : ∀ {e k n : Nat} {v : Value} {xs : List Value}, w1.ownsRow B e k v n xs → e ≠ 42 → e ≠ 45 → (w2.setCell ⟨fg, m * 4 + 3, none⟩ cl2).ownsRow B e k v n xs := fun ho he he' => k3 (own_apart ho hcl he hg) he'
  have hbf : fg ≠ b := fun e => by
    rw [e] at hfcur
    exact tag_ne hfcur (by decide) h1.self
  have hap := List.pairwise_append.1 h.apart
  have hfl : st.funcs.length = m + 1 := by rw [hfs, hm]; simp
  refine ⟨⟨h.nine, h.le, ?_, by simp [hlen], ?_, ?_, ?_, kk h1.args (by decide) (by decide), kk h1.uses (by decide) (by decide)⟩, ?_⟩
  · rw [Below.heap_setCell _ _ _ _ (by simpa using hbf.symm)]
    exact hs2
  · have hf := own_apart h1.fns hcl (by decide) hg
    have := own_set (j := m * 4 + 3) (u := cl2) hf (g := fg) rfl
    rw [hfs, hm, funV_set fs f cd cl cl2 hlen (f.code ++ [(op, x)])] at this
    rw [hm]
    simpa using this
  · intro i hi hi'
    rcases Nat.lt_or_ge i fs.length with hlt | hge
    · have e1 : (cd ++ [cl2])[i] = cd[i]'(by rw [hlen]; exact hlt) := List.getElem_append_left _
      have e2 : (fs ++ [{ f with code := f.code ++ [(op, x)] }])[i] = fs[i] := List.getElem_append_left _
      have h3 := h1.codes i (by simp; omega) (by rw [hfs]; simp; omega)
      have e3 : (cd ++ [cl])[i]'(by simp; omega) = cd[i]'(by rw [hlen]; exact hlt) := List.getElem_append_left _
      have e4 : st.funcs[i]'(by rw [hfs]; simp; omega) = fs[i] := by simp only [hfs]; exact List.getElem_append_left _
      rw [e3, e4] at h3
      simp only [e1, e2]
      refine k3 (h3.kept hg ?_) (by decide)
      exact (hap.2.2 _ (List.getElem_mem _) cl (by simp)).ne
    · have hi2 : i = fs.length := by simp at hi'; omega
      subst hi2
      have e1 : (cd ++ [cl2])[fs.length] = cl2 := by simp [← hlen]
      have e2 : (fs ++ [{ f with code := f.code ++ [(op, x)] }])[fs.length] = { f with code := f.code ++ [(op, x)] } := by simp
      simp only [e1, e2]
      have := k3 ho (by decide)
      simpa [insV] using this
  · rw [List.pairwise_append]
    refine ⟨hap.1, by simp, fun a ha c hc => ?_⟩
    simp only [List.mem_singleton] at hc
    subst hc
    intro p q hp hq
    rcases hnew q hq with h5 | ⟨p', hp', hle⟩
    · obtain ⟨i, hi, hai⟩ := List.getElem_of_mem ha
      have h3 := h1.codes i (by simp; omega) (by rw [hfl, hm, ← hlen]; omega)
      have e3 : (cd ++ [cl])[i]'(by simp; omega) = a := by rw [List.getElem_append_left hi]; exact hai
      rw [e3] at h3
      have := (h3.lt p hp).2
      omega
    · have := hap.2.2 a ha cl (by simp) p p' hp hp'
      omega
  · exact ((hb.mono hB).grown hg (Nat.le_trans hB hb.size) (fun k hk => (hcl.lt k hk).1)).setCell (p := ⟨fg, m * 4 + 3, none⟩) (by have := (h1.fns.lt fg rfl).1; exact this) _

end Go.Proofs.YtfnloomcianbiaaGreatDoor
