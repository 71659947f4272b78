/- newWalk, isName, named. -/
import Derived.Test.YtnkfdpnommjlcaaGreatDoorDepths
import Derived.Test.YtnkfdpnommjlcaaGreatDoorPlain
namespace Go.Proofs.YtnkfdpnommjlcaaGreatDoor
open Go.RowKit Go.ChangeShapes Go.WideShapes Go.ChangeAt Go.Deep

theorem frs_row {fs : List Fun} {cs : List Value} (hl : cs.length = fs.length) {k : Nat} (hk : k < fs.length) : (frs fs cs)[k]! = Fun.row fs[k] (cs[k]'(by rw [hl]; exact hk)) := by
  have h : k < (frs fs cs).length := by simp [frs, hl, hk]
  rw [getElem!_pos (frs fs cs) k h]
  simp [frs]

/-- A job's function k, as its cells hold it. -/
theorem JobR.fun_at {w : World} {j : JV} {cs : List Value} {fs : List Fun} {args : List Int} (h : JobR w j cs fs args) {k : Nat} (hk : k < fs.length) :
    ∃ fb off ca cc, j.fa = some ⟨fb, off, none⟩ ∧ w.cell? ⟨fb, off + k * 4, none⟩ = some (.string fs[k].name) ∧ w.cell? ⟨fb, off + k * 4 + 1, none⟩ = some (.int .i64 fs[k].args) ∧ w.cell? ⟨fb, off + k * 4 + 2, none⟩ = some (.int .i64 fs[k].locals) ∧ w.cell? ⟨fb, off + k * 4 + 3, none⟩ = some (.slice ca fs[k].code.length cc) ∧ Reads w ca (insV fs[k].code) ∧ cs[k]? = some (.slice ca fs[k].code.length cc) := by
  have hl : (frs fs cs).length = fs.length := by simp [frs, h.len]
  obtain ⟨ca, cc, h1, h2⟩ := h.codes k (by rw [h.len]; exact hk) hk
  rcases h.fns with h0 | ⟨fb, off, e, _, hc⟩
  · rw [h0] at hl; simp at hl; omega
  · have hr := frs_row h.len hk
    refine ⟨fb, off, ca, cc, e, ?_, ?_, ?_, ?_, h2, by rw [List.getElem?_eq_getElem (by rw [h.len]; exact hk), h1]⟩
    · exact hc k (by omega) 0 _ (by rw [hr]; rfl)
    · exact hc k (by omega) 1 _ (by rw [hr]; rfl)
    · exact hc k (by omega) 2 _ (by rw [hr]; rfl)
    · exact hc k (by omega) 3 _ (by rw [hr, ← h1]; rfl)

theorem JobR.code_reads {w : World} {j : JV} {cs : List Value} {fs : List Fun} {args : List Int} (h : JobR w j cs fs args) {k : Nat} (hk : k < fs.length) {ca : Option Addr} {n cc : Nat} (hc : cs[k]? = some (.slice ca n cc)) : Reads w ca (insV fs[k].code) := by
  obtain ⟨ca', cc', h1, h2⟩ := h.codes k (by rw [h.len]; exact hk) hk
  rw [List.getElem?_eq_getElem (by rw [h.len]; exact hk), h1] at hc
  simp at hc
  obtain ⟨rfl, _⟩ := hc
  exact h2

set_option maxRecDepth 100000 in
set_option maxHeartbeats 1000000 in
theorem newWalk_any (j : JV) (cs : List Value) (fs : List Fun) (args : List Int) (k : Nat) (w : World) (hJ : JobR w j cs fs args) (hk : k < fs.length) :
    Calls Tryz.prog 51 #[.agg j.cells, .int .i64 (k : Int)] w fun r w' => r = .returned (.pointer (some ⟨w.heap.size + 1, 0, none⟩)) ∧ (∃ ca cc, AtW w' (w.heap.size + 1) ⟨fs[k].name, fs[k].args, fs[k].locals, ca, fs[k].code.length, cc, (k : Int), 0, j.fa, j.nf, j.fc, .slice none 0 0, .slice none 0 0, 0⟩ ∧ cs[k]? = some (.slice ca fs[k].code.length cc)) ∧ Below w.heap.size w w' := by
  have hb0 := alloc_below w (.cells j.cells 25)
  obtain ⟨fb, off, ca, cc, e, y0, y1, y2, y3, _, hr'⟩ := JobR.fun_at (hJ.below hb0) hk
  have HR := hide hr'
  have hj0 : (w.alloc (.cells j.cells 25)).heap[w.heap.size]? = some (.cells j.cells 25 (0, 0)) := heap_alloc_new w _
  have hnf := hJ.nf
  have hkn : (k : Int) < (j.nf : Int) := by rw [hnf]; omega
  clear hJ hr'
  generalize fs[k] = f at y0 y1 y2 y3 HR ⊢
  obtain ⟨fa, nf, fc, mn, aa, na, ac, fu, ta⟩ := j
  simp only [JV.cells] at *
  subst e
  obtain ⟨fnm, far, flo, fcode⟩ := f
  simp only [] at *
  generalize hcl : fcode.length = cn at y3 ⊢
  have HCL := hide hcl
  clear hcl hnf
  go_enter Tryz.func51, Tryz.ntmps51
  go_upto_region 1 with fail
  have hsz : (w.alloc (.cells #[.slice (some ⟨fb, off, none⟩) nf fc, .int .i64 mn, .slice aa na ac, .int .i64 fu, .int .i64 ta] 25)).heap.size = w.heap.size + 1 := by simp
  generalize (w.alloc (.cells #[.slice (some ⟨fb, off, none⟩) nf fc, .int .i64 mn, .slice aa na ac, .int .i64 fu, .int .i64 ta] 25)) = w0 at hb0 y0 y1 y2 y3 hj0 hsz ⊢
  have j0 := cell_row (cs := [.slice (some ⟨fb, off, none⟩) nf fc, .int .i64 mn, .slice aa na ac, .int .i64 fu, .int .i64 ta]) (i := 0) hj0 rfl
  have HZ := hide hsz
  clear hj0 hsz
  go_region
  go_wp2
  go_ret
  rw [HZ.out]
  refine ⟨rfl, ⟨ca, cc, ?_, by rw [← HCL.out]; exact HR.out⟩, (hb0.alloc hb0.size _).drew⟩
  have := heap_alloc_new w0 (.cells #[.string fnm, .int .i64 far, .int .i64 flo, .slice ca cn cc, .int .i64 (k : Int), .int .i64 0, .slice (some ⟨fb, off, none⟩) nf fc, .slice none 0 0, .slice none 0 0, .int .i64 0] 110)
  rw [HZ.out] at this
  exact this

theorem plain_one (s : ByteArray) : plainL [⟨s, 0, 0, []⟩] 0 0 = isNameL s.data.toList := by
  unfold plainL
  simp [isFuncL, okAt, findF, findFrom, plainCode, List.range_succ]

set_option maxRecDepth 100000 in
set_option maxHeartbeats 1000000 in
theorem isNm_any (s : ByteArray) (hs : s.size < 9223372036854775808) (w : World) (hE : Env w) : Calls Tryz.prog 67 #[.string s] w fun r w' => r = .returned (.bool (isNameL s.data.toList)) ∧ Below w.heap.size w w' := by
  have hb0 := alloc_below w (.cells #[.string s, .int .i64 0, .int .i64 0, .slice none 0 0] 58)
  have hrow : (w.alloc (.cells #[.string s, .int .i64 0, .int .i64 0, .slice none 0 0] 58)).heap[w.heap.size]? = some (.cells [.string s, .int .i64 0, .int .i64 0, .slice none 0 0].toArray 58 (0, 0)) := heap_alloc_new w _
  have C := plain_any ⟨some ⟨w.heap.size, 0, none⟩, 1, 1, 0, none, 0, 0, 0, 0⟩ [.slice none 0 0] [⟨s, 0, 0, []⟩] [] (w.alloc (.cells #[.string s, .int .i64 0, .int .i64 0, .slice none 0 0] 58))
    ⟨rfl, Nat.le_refl _, rfl, .inr ⟨w.heap.size, 0, rfl, by simp, fun j hj i v hv => by
      have hj0 : j = 0 := by simp [frs] at hj; omega
      subst hj0
      have : 0 + 0 * 4 + i = i := by omega
      rw [this]
      exact cell_row hrow hv⟩, fun i h h' => by
        have hi : i = 0 := by simp at h; omega
        subst hi
        exact ⟨none, 0, rfl, .inl rfl⟩, rfl, .inl rfl⟩ (hE.below hb0) (by simp) (by simp) (fun f hf => by simp at hf; subst hf; exact ⟨by simp, hs⟩)
  have hpo : plainL [⟨s, 0, 0, []⟩] 0 ([] : List Int).length = isNameL s.data.toList := plain_one s
  simp only [hpo, JV.cells] at C
  clear hrow hpo
  generalize isNameL s.data.toList = q at C ⊢
  go_enter Tryz.func67, Tryz.ntmps67
  go_wp2_with (go_at_call 82; go_must (refine C.mono ?_; rintro e w1 ⟨rfl, hb1⟩))
  go_ret
  exact ⟨rfl, chain hb0 hb1⟩

set_option maxRecDepth 100000 in
set_option maxHeartbeats 400000 in
theorem pred2_any (nm : ByteArray) (b : Nat) (w : World) (hb : b < w.heap.size) (hc : w.cell? ⟨b, 0, none⟩ = some (.string nm)) :
    PredBelow Tryz.prog 84 #[.pointer (some ⟨b, 0, none⟩)] (fun x : FR => .agg (FR.enc x).toArray) (fun x => x.name.toList == nm.toList) w := fun W x hW => by
  have hc' : W.cell? ⟨b, 0, none⟩ = some (.string nm) := (hW.cell (p := ⟨b, 0, none⟩) hb).trans hc
  have hb' : b < W.heap.size := Nat.lt_of_lt_of_le hb hW.size
  obtain ⟨xn, xa, xl, xc⟩ := x
  show Calls Tryz.prog 84 #[.agg #[.string xn, .int .i64 xa, .int .i64 xl, xc], .pointer (some ⟨b, 0, none⟩)] W _
  clear hc hb
  go_enter Tryz.func84, Tryz.ntmps84
  go_wp2
  go_ret
  exact ⟨rfl, hW.alloc hW.size _⟩

set_option maxRecDepth 100000 in
set_option maxHeartbeats 400000 in
theorem contains_any (f : Value) (s : Value) (r : Int) (w : World) (h : Calls Tryz.prog 98 #[s, f] w fun e w' => e = .returned (.int .i64 r) ∧ Below w.heap.size w w') : Calls Tryz.prog 83 #[s, f] w fun e w' => e = .returned (.bool (decide (0 ≤ r))) ∧ Below w.heap.size w w' := by
  go_enter Tryz.func83, Tryz.ntmps83
  go_wp2_with (go_at_call 98; go_must (refine h.mono ?_; rintro e w1 ⟨rfl, hb2⟩))
  go_ret
  exact ⟨rfl, hb2⟩

set_option maxRecDepth 100000 in
set_option maxHeartbeats 400000 in
theorem named_any (nm : ByteArray) (a : Option Addr) (cap : Nat) (n : Nat) (fs : List FR) (hn : fs.length = n) (hbig : n ≤ 9223372036854775807) (w : World) (hr : FReads w a fs) :
    Calls Tryz.prog 68 #[.string nm, .slice a n cap] w fun e w' => e = .returned (.bool (decide (0 ≤ findL nm fs))) ∧ Below w.heap.size w w' := by
  have hmf : ∀ (fn : Fn) (first cap : Array Value) (w : World), (Instr.makeFunc fn first cap).run Tryz.prog w = .ok (.func fn first cap) w := fun _ _ _ _ => rfl
  have hb1 : Below w.heap.size w (w.alloc (.cells #[.string nm] 9)) := (Below.refl _ _).alloc (Nat.le_refl _) _
  have hr1 := hr.below hb1
  rcases hr1 with rfl | ⟨b, off, rfl, hlt, hc⟩
  · have hn0 : n = 0 := by rw [← hn]; rfl
    subst hn0
    have C := fun f w => contains_any f (.slice a 0 cap) (-1) w (idx_nil a f cap w)
    have HO := hide (show findL nm [] = -1 from rfl)
    go_enter Tryz.func68, Tryz.ntmps68
    go_wp2_with (go_at_call 83; go_must (refine (C _ _).mono ?_; rintro e w1 ⟨rfl, hb2⟩))
    go_ret
    exact ⟨by rw [HO.out]; rfl, hb1.trans (hb2.mono (by simp))⟩
  · have hp := pred2_any nm w.heap.size (w.alloc (.cells #[.string nm] 9)) (by simp) (by simp)
    have C : Calls Tryz.prog 98 #[.slice (some ⟨b, off, none⟩) n cap, .func (.func 84) #[] #[.pointer (some ⟨w.heap.size, 0, none⟩)]] (w.alloc (.cells #[.string nm] 9)) fun e w' => e = .returned (.int .i64 (findL nm fs)) ∧ Below (w.alloc (.cells #[.string nm] 9)).heap.size (w.alloc (.cells #[.string nm] 9)) w' := by
      have D := AnyQ.slices_IndexFunc Tryz.laysH6 4 Tryz.isAgg58 Tryz.sizeOf58 FR.enc (fun _ => rfl) (fun x => x.name.toList == nm.toList) 84 #[.pointer (some ⟨w.heap.size, 0, none⟩)] (enters_of Tryz.func84 (by kernel_rfl) rfl) b off n cap fs _ hp (by omega) hbig hlt hc
      rw [List.take_of_length_le (by omega)] at D
      exact D
    have C2 := contains_any _ _ _ _ C
    generalize findL nm fs = r at C2 ⊢
    clear hc hr hp C
    go_enter Tryz.func68, Tryz.ntmps68
    go_wp2_with (go_at_call 83; go_must (refine C2.mono ?_; rintro e w1 ⟨rfl, hb2⟩))
    go_ret
    exact ⟨rfl, hb1.trans (hb2.mono (by simp))⟩
end Go.Proofs.YtnkfdpnommjlcaaGreatDoor
