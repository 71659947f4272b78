/- insLine: an instruction's line. -/
import Derived.Test.YtfnloomcianbiaaGreatDoorLine
import Derived.Test.YtfnloomcianbiaaGreatDoorPlain
namespace Go.Proofs.YtfnloomcianbiaaGreatDoor
open Go.RowKit Go.ChangeShapes Go.WideShapes Go.ChangeAt Go.Deep

/-- What stands behind an instruction's word. -/
def behindT (op n : Int) (fs : List Fun) : List UInt8 :=
  if op = 16 then 32 :: ((fs[n.toNat]?).map fun f => f.name.data.toList).getD []
  else if (kindOf op).hasN = true then 32 :: Lib.itoa n else []
def insText (op n : Int) (fs : List Fun) : List UInt8 := [32, 32] ++ (kindOf op).word.data.toList ++ behindT op n fs ++ [10]

theorem bs_data (s : ByteArray) : bs s.data.toList = s := by
  apply bytes_inj
  simp [bs]

theorem word_len (op : Int) : (kindOf op).word.size ≤ 10 := by
  unfold kindOf
  split
  · rename_i h
    have : ∀ k : Fin 20, (kindT.getD k.val noKind).word.size ≤ 10 := by decide +kernel
    exact this ⟨op.toNat, by omega⟩
  · decide

set_option maxRecDepth 100000 in
set_option maxHeartbeats 1000000 in
theorem insLine_any (op n : Int) (j : JV) (cs : List Value) (fs : List Fun) (args : List Int) (hn : In64 [n]) (h16 : op = 16 → 0 ≤ n ∧ n < (fs.length : Int)) (hc : ∀ f ∈ fs, f.name.size ≤ 1000) (w : World) (hJ : JobR w j cs fs args) (hE : Env w) :
    Calls Tryz.prog 28 #[.agg #[.int .i64 op, .int .i64 n], .agg j.cells] w fun e w' => e = .returned (.string (bs (insText op n fs))) ∧ Below w.heap.size w w' := by
  have hb1 := alloc_below w (.cells #[.int .i64 op, .int .i64 n] 42)
  have hb2 := hb1.trans ((alloc_below (w.alloc (.cells #[.int .i64 op, .int .i64 n] 42)) (.cells j.cells 25)).mono hb1.size)
  have hi0 : ((w.alloc (.cells #[.int .i64 op, .int .i64 n] 42)).alloc (.cells j.cells 25)).heap[w.heap.size]? = some (.cells [.int .i64 op, .int .i64 n].toArray 42 (0, 0)) := by
    rw [Go.heap_alloc_old _ _ (show w.heap.size < _ by simp)]; exact heap_alloc_new w _
  have hj0 : ((w.alloc (.cells #[.int .i64 op, .int .i64 n] 42)).alloc (.cells j.cells 25)).heap[w.heap.size + 1]? = some (.cells j.cells 25 (0, 0)) := by
    have := heap_alloc_new (w.alloc (.cells #[.int .i64 op, .int .i64 n] 42)) (.cells j.cells 25)
    simpa using this
  have N := name_any op _ (hE.below hb2).tab
  have HN := fun w hT => hasN_any op w hT
  have hE2 := hE.below hb2
  have hJ2 := hJ.below hb2
  have hwl := word_len op
  have HP := hide (show insText op n fs = [32, 32] ++ (kindOf op).word.data.toList ++ (if op = 16 then 32 :: ((fs[n.toNat]?).map fun f => f.name.data.toList).getD [] else if (kindOf op).hasN = true then 32 :: Lib.itoa n else []) ++ [10] from rfl)
  have hnf := hJ.nf
  obtain ⟨fa, nf, fc, mn, aa, na, ac, fu, ta⟩ := j
  simp only [JV.cells] at *
  generalize (kindOf op).word = wd at N HP hwl
  generalize (kindOf op).hasN = hq at HN HP
  generalize insText op n fs = r at HP ⊢
  have HNF := hide hnf
  clear hnf
  have hq1 : ¬ (9223372036854775807 < 2 + wd.size) := by omega
  go_enter Tryz.func28, Tryz.ntmps28
  go_wp2_with (go_at_call 46; refine Hid.out ?_)
  refine Lib.hid ?_
  generalize (w.alloc (.cells #[.int .i64 op, .int .i64 n] 42)).alloc (.cells #[.slice fa nf fc, .int .i64 mn, .slice aa na ac, .int .i64 fu, .int .i64 ta] 25) = w2 at hb2 hi0 hj0 N hE2 hJ2 ⊢
  refine N.mono ?_
  rintro e w3 ⟨rfl, hb3⟩
  have hi3 : w3.heap[w.heap.size]? = some (.cells [.int .i64 op, .int .i64 n].toArray 42 (0, 0)) := by rw [hb3.block _ (lt_row hi0)]; exact hi0
  have hj3 : w3.heap[w.heap.size + 1]? = some (.cells [.slice fa nf fc, .int .i64 mn, .slice aa na ac, .int .i64 fu, .int .i64 ta].toArray 25 (0, 0)) := by rw [hb3.block _ (lt_row hj0)]; exact hj0
  have i0 := cell_row (i := 0) hi3 rfl
  have i1 := cell_row (i := 1) hi3 rfl
  have j0 := cell_row (i := 0) hj3 rfl
  have hbx := hb2.trans (hb3.mono hb2.size)
  have hE3 := hE2.below hb3
  have hJ3 := hJ2.below hb3
  clear N
  by_cases h16' : op = 16
  · obtain ⟨hn0, hn1⟩ := h16 h16'
    obtain ⟨m, rfl⟩ : ∃ m : Nat, n = (m : Int) := ⟨n.toNat, by omega⟩
    have hmf : m < fs.length := by omega
    have hmc : m < cs.length := by rw [hJ.len]; exact hmf
    obtain ⟨b, off, rfl, hbl, hcl⟩ : ∃ b off, fa = some ⟨b, off, none⟩ ∧ b < w3.heap.size ∧ ∀ j, j < (frs fs cs).length → ∀ i v, (FR.enc (frs fs cs)[j]!)[i]? = some v → w3.cell? ⟨b, off + j * 4 + i, none⟩ = some v := by
      rcases hJ3.fns with ⟨_, h⟩ | h
      · have h9 : (frs fs cs).length = fs.length := by simp [frs, hJ.len]
        rw [h] at h9
        simp at h9
        omega
      · exact h
    have e8 : (frs fs cs)[m]! = Fun.row fs[m] cs[m] := by
      rw [getElem!_pos _ m (by simp [frs, hJ.len]; exact hmf)]
      simp [frs]
    have y0 := hcl m (by simp [frs, hJ.len]; exact hmf) 0 _ (by rw [e8]; rfl)
    have hfm := hc fs[m] (List.getElem_mem _)
    have hx := List.getElem?_eq_getElem hmf
    generalize fs[m] = f at y0 hfm hx e8
    simp only [Fun.row, Nat.add_zero] at y0
    have HO := hide (show bs ((32 :: 32 :: (wd.data.toList ++ 32 :: f.name.data.toList)) ++ numsT [] ++ [10]) = bs r by
      rw [HP.out, if_pos h16']
      simp [hx, numsT])
    have hlen : (32 :: 32 :: (wd.data.toList ++ 32 :: f.name.data.toList)).length ≤ 1000000 := by
      have h1 := Lib.size_eq wd
      have h2 := Lib.size_eq f.name
      simp only [List.length_append, List.length_cons]
      omega
    have CL := line_any (32 :: 32 :: (wd.data.toList ++ 32 :: f.name.data.toList)) [] none 0 0 rfl (by omega) (fun x hx => by cases hx) hlen w3 (.inl rfl) hE3
    rw [HO.out] at CL
    have hs1 : (⟨#[32, 32]⟩ ++ wd ++ ⟨#[32]⟩ ++ f.name : ByteArray) = bs (32 :: 32 :: (wd.data.toList ++ 32 :: f.name.data.toList)) := by
      have : 32 :: 32 :: (wd.data.toList ++ 32 :: f.name.data.toList) = [32, 32] ++ wd.data.toList ++ [32] ++ f.name.data.toList := by simp
      rw [this, ← bs_append, ← bs_append, ← bs_append, bs_data, bs_data]; rfl
    have hm1 : (m : Int) < (nf : Int) := by have := HNF.out; omega
    have h16b : (op == 16) = true := by simp [h16']
    have hq2 : ¬ (9223372036854775807 < 2 + wd.size + 1) := by omega
    have hq3 : ¬ (9223372036854775807 < 2 + wd.size + 1 + f.name.size) := by omega
    have H16 := hide h16'
    clear h16 h16' HP hcl e8 hx hc
    go_wp2_with (go_at_call 27; go_must (refine CL.mono ?_; rintro e w4 ⟨rfl, hb4⟩))
    go_ret
    exact ⟨rfl, hbx.trans (hb4.mono hbx.size)⟩
  · have hlen : (32 :: 32 :: wd.data.toList).length ≤ 1000000 := by
      have h1 := Lib.size_eq wd
      simp only [List.length_cons]
      omega
    have hs1 : (⟨#[32, 32]⟩ ++ wd : ByteArray) = bs (32 :: 32 :: wd.data.toList) := by
      have : 32 :: 32 :: wd.data.toList = [32, 32] ++ wd.data.toList := rfl
      rw [this, ← bs_append, bs_data]; rfl
    cases hq with
    | true =>
      have HO := hide (show bs ((32 :: 32 :: wd.data.toList) ++ numsT [n] ++ [10]) = bs r by
        rw [HP.out, if_neg h16']
        simp [numsT])
      have CL := fun (w4 : World) (hb : Below w3.heap.size w3 w4) => line_any (32 :: 32 :: wd.data.toList) [n] (some ⟨w4.heap.size, 0, none⟩) 1 1 rfl (by omega) hn hlen (w4.alloc (.cells #[.int .i64 n] 3)) (reads_new w4 (iV [n]) 3) ((hE3.below hb).below (alloc_below w4 _))
      rw [HO.out] at CL
      clear HP
      go_wp2_with (first
        | (go_at_call 47; go_must (refine (HN _ hE3.tab).mono ?_; rintro e w4 ⟨rfl, hb4⟩; have i14 := keep_cell i1 hb4))
        | (go_at_call 27; go_must (refine (CL w4 hb4).mono ?_; rintro e w5 ⟨rfl, hb5⟩)))
      go_ret
      have hbz := hbx.trans (hb4.mono hbx.size)
      have hby := alloc_below w4 (.cells #[.int .i64 n] 3)
      have hbq := hbz.trans (hby.mono hbz.size)
      exact ⟨rfl, hbq.trans (hb5.mono hbq.size)⟩
    | false =>
      have HO := hide (show bs ((32 :: 32 :: wd.data.toList) ++ numsT [] ++ [10]) = bs r by
        rw [HP.out, if_neg h16']
        simp [numsT])
      have CL := fun (w4 : World) (hb : Below w3.heap.size w3 w4) => line_any (32 :: 32 :: wd.data.toList) [] none 0 0 rfl (by omega) (fun x hx => by cases hx) hlen w4 (.inl rfl) (hE3.below hb)
      rw [HO.out] at CL
      clear HP
      go_wp2_with (first
        | (go_at_call 47; go_must (refine (HN _ hE3.tab).mono ?_; rintro e w4 ⟨rfl, hb4⟩))
        | (go_at_call 27; go_must (refine (CL w4 hb4).mono ?_; rintro e w5 ⟨rfl, hb5⟩)))
      go_ret
      have hbz := hbx.trans (hb4.mono hbx.size)
      exact ⟨rfl, hbz.trans (hb5.mono hbz.size)⟩
end Go.Proofs.YtfnloomcianbiaaGreatDoor
/- The Builder: kept, written. -/

namespace Go.Proofs.YtfnloomcianbiaaGreatDoor
open Go.RowKit Go.ChangeShapes Go.WideShapes Go.ChangeAt Go.Deep

/-- A builder of the call's own that holds these bytes. -/
def Bld (B b : Nat) (l : List UInt8) (w : World) : Prop := Lib.IsBuilderF 66 5 B b (Lib.byteCells l) w

theorem bldAt_keep {B b : Nat} {p : Value} {bs : List Value} {w w' : World} (h : Lib.BuilderAtF 66 5 B b p bs w) (hb : Below w.heap.size w w') : Lib.BuilderAtF 66 5 B b p bs w' := by
  obtain ⟨h1, v, h2, ⟨h3, h4⟩, h5⟩ := h
  refine ⟨h1, v, by rw [hb.block b (lt_row h2)]; exact h2, ⟨h3, ?_⟩, h5⟩
  rcases h4 with h4 | ⟨g, cap, cur, fz, e1, e2, e3, e4⟩
  · exact .inl h4
  · exact .inr ⟨g, cap, cur, fz, e1, e2, by rw [hb.block g (lt_row e3)]; exact e3, e4⟩
theorem Bld.keep {B b : Nat} {l : List UInt8} {w w' : World} (h : Bld B b l w) (hb : Below w.heap.size w w') : Bld B b l w' := by
  rcases h with h | h
  · exact .inl (bldAt_keep h hb)
  · exact .inr (bldAt_keep h hb)

theorem write_any (B b : Nat) (l t : List UInt8) (w : World) (h : Bld B b l w) (hlen : l.length + t.length ≤ 1000000000) (hBw : B ≤ w.heap.size) :
    Calls Tryz.prog 26 #[.pointer (some ⟨b, 0, none⟩), .string (bs t)] w fun e w' => e = .returned (.tuple #[.int .i64 (bs t).size, .nilIface]) ∧ Bld B b (l ++ t) w' ∧ Below B w w' ∧ Lib.OthersKept 5 (some b) w w' := by
  refine (Tryz.Builder_WriteString_k B b (Lib.byteCells l) (bs t) w h (by rw [bs_size]; simp [Lib.byteCells]; omega) hBw).mono ?_
  rintro e w' ⟨he, h1, h2, h3⟩
  refine ⟨he, .inr ?_, h2, h3⟩
  rw [Lib.byteCells_append]
  exact h1

theorem text_any (B b : Nat) (l : List UInt8) (w : World) (h : Bld B b l w) (hBw : B ≤ w.heap.size) :
    Calls Tryz.prog 29 #[.pointer (some ⟨b, 0, none⟩)] w fun e w' => e = .returned (.string (bs l)) ∧ Below B w w' := by
  refine (Tryz.Builder_String_any_k B b l w h hBw).mono ?_
  rintro e w' ⟨he, _, h2, _⟩
  exact ⟨he, h2⟩

theorem bld_new (w : World) : Bld w.heap.size w.heap.size [] (w.alloc (.cells #[.pointer none, .slice none 0 0] 66)) := Lib.IsBuilderF.of (Lib.fresh_isBuilder 66 5 w)

/-- A block of the call's own that is no row of bytes stands where the builder is written. -/
theorem kept_block {b k : Nat} {w w' : World} {cs : Array Value} {t : TypeId} {fz : Nat × Nat} (h : Lib.OthersKept 5 (some b) w w') (hk : w.heap[k]? = some (.cells cs t fz)) (hb : k ≠ b) (ht : t ≠ 5) : w'.heap[k]? = some (.cells cs t fz) :=
  h k _ hk (by simpa using hb) (fun c f e => by injection e with _ e2 _; exact ht e2)

def codeT (c : List (Int × Int)) (fs : List Fun) : List UInt8 := c.flatMap fun x => insText x.1 x.2 fs
def funcT (f : Fun) (fs : List Fun) : List UInt8 := [102, 117, 110, 99, 32] ++ f.name.data.toList ++ numsT [f.args, f.locals] ++ [10] ++ codeT f.code fs
def headT (fuel tasks : Int) : List UInt8 := [106, 111, 98] ++ numsT [fuel, tasks] ++ [10]
def mainT (nm : List UInt8) (args : List Int) : List UInt8 := [109, 97, 105, 110, 32] ++ nm ++ numsT args ++ [10]
/-- A job's text. -/
def printT (fs : List Fun) (main : Int) (args : List Int) (fuel tasks : Int) : List UInt8 :=
  headT fuel tasks ++ mainT (((fs[main.toNat]?).map fun f => f.name.data.toList).getD []) args ++ fs.flatMap (fun f => funcT f fs) ++ [101, 110, 100, 10]
def printL (fs : List Fun) (main : Int) (args : List Int) (fuel tasks : Int) : List UInt8 := if plainL fs main args.length = true then printT fs main args fuel tasks else []

theorem itoa_21 {n : Int} (h : In64 [n]) : (Lib.itoa n).length ≤ 21 := Lib.itoa_length_le n (h n (by simp)).1 (h n (by simp)).2
theorem insText_len (op n : Int) (fs : List Fun) (hn : In64 [n]) (hc : ∀ f ∈ fs, f.name.size ≤ 1000) : (insText op n fs).length ≤ 1100 := by
  have h1 := word_len op
  have h2 := Lib.size_eq (kindOf op).word
  have h3 : (behindT op n fs).length ≤ 1001 := by
    unfold behindT
    split
    · cases hf : fs[n.toNat]? with
      | none => simp
      | some f =>
        have := hc f (List.mem_of_getElem? hf)
        have h4 := Lib.size_eq f.name
        simp
        simp at h4
        omega
    · split
      · have := itoa_21 hn
        simp; omega
      · simp
  unfold insText
  simp only [List.length_append, List.length_cons, List.length_nil]
  omega
end Go.Proofs.YtfnloomcianbiaaGreatDoor
