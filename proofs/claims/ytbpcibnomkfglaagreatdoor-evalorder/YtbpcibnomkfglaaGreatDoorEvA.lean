/- What a job means: Eval, Total; the example. -/
import Derived.Test.YtbpcibnomkfglaaGreatDoorDo
import Derived.Test.YtbpcibnomkfglaaGreatDoorBegA
import Derived.Test.YtbpcibnomkfglaaGreatDoorTallW
namespace Go.Proofs.YtbpcibnomkfglaaGreatDoor
open Go.RowKit Go.ChangeShapes Go.WideShapes Go.ChangeAt Go.Deep

/-- What Eval answers: entries in rows of their own, or that there are too many. -/
def EvalPost (w : World) (q : List En × Bool × Int × Int) (e : Ending) (w' : World) : Prop :=
  (q.2.1 = true ∧ e = .returned (.tuple #[.slice none 0 0, .int .i64 30]) ∧ Below w.heap.size w w') ∨
  (q.2.1 = false ∧ ∃ (L : List ET) (ea : Option Addr) (ec : Nat), e = .returned (.tuple #[.slice ea L.length ec, .int .i64 0]) ∧ L.map (·.1) = q.1 ∧ w'.ownsRow w.heap.size 37 8 (.slice ea L.length ec) L.length (rowsE L) ∧ Ents w.heap.size w' L ∧ Below w.heap.size w w')
set_option linter.unusedSimpArgs false in
set_option maxRecDepth 100000 in
set_option maxHeartbeats 4000000 in
theorem eval_any (j : JV) (cs : List Value) (fs : List Fun) (args : List Int) (w : World) (hJ : JobR w j cs fs args) (hE : Env w) (hf : fs.length ≤ 1000000000) (hs : ∀ f ∈ fs, f.code.length ≤ 1000000000 ∧ f.name.size < 4294967281) (hC : (checkL fs j.main args.length j.fuel j.tasks).2.2 = 0) (hn : j.aa = none → args.length = 0 ∧ j.ac = 0) (mn : Nat) (hm : j.main = (mn : Int)) (n k h : Nat) (q : List En × Bool × Int × Int) (hq : doE fs j.fuel j.tasks n k h [] [] mn args = some q) :
    Calls Tryz.prog 11 #[.agg #[.slice j.fa j.nf j.fc, .int .i64 j.main, .slice j.aa j.na j.ac, .int .i64 j.fuel, .int .i64 j.tasks]] w (EvalPost w q) := by
  have hA := alloc_below w (.cells #[.slice j.fa j.nf j.fc, .int .i64 j.main, .slice j.aa j.na j.ac, .int .i64 j.fuel, .int .i64 j.tasks] 30)
  have hnew := heap_alloc_new w (.cells #[.slice j.fa j.nf j.fc, .int .i64 j.main, .slice j.aa j.na j.ac, .int .i64 j.fuel, .int .i64 j.tasks] 30)
  have hJ1 := hJ.below hA
  have hE1 := hE.below hA
  have C16 := check_any j cs fs args _ hJ1 hE1 hf hs
  unfold CheckPost at C16
  rw [hC] at C16
  simp only [JV.cells] at C16
  generalize (checkL fs j.main args.length j.fuel j.tasks).1 = k1 at C16
  generalize (checkL fs j.main args.length j.fuel j.tasks).2.1 = k2 at C16
  have HMM := hide hm
  have HCC := hide hC
  clear hJ hE hm hC
  go_enter Tryz.func11, Tryz.ntmps11
  go_upto_region 1 with fail
  generalize (w.alloc (.cells #[.slice j.fa j.nf j.fc, .int .i64 j.main, .slice j.aa j.na j.ac, .int .i64 j.fuel, .int .i64 j.tasks] 30)) = w1 at *
  have j0 : w1.cell? ⟨w.heap.size, 0, none⟩ = some (.slice j.fa j.nf j.fc) := by simp only [World.cell?, hnew]; rfl
  have j1 : w1.cell? ⟨w.heap.size, 1, none⟩ = some (.int .i64 j.main) := by simp only [World.cell?, hnew]; rfl
  have j2 : w1.cell? ⟨w.heap.size, 2, none⟩ = some (.slice j.aa j.na j.ac) := by simp only [World.cell?, hnew]; rfl
  have j3 : w1.cell? ⟨w.heap.size, 3, none⟩ = some (.int .i64 j.fuel) := by simp only [World.cell?, hnew]; rfl
  have j4 : w1.cell? ⟨w.heap.size, 4, none⟩ = some (.int .i64 j.tasks) := by simp only [World.cell?, hnew]; rfl
  clear hnew
  go_wp2_with (go_at_call 16; go_must (with_reducible refine C16.mono ?_; (rintro e w2 ⟨rfl, hb2⟩); refine Hid.out ?_))
  refine Lib.hid ?_
  replace j0 := keep_cell j0 hb2
  replace j1 := keep_cell j1 hb2
  replace j2 := keep_cell j2 hb2
  replace j3 := keep_cell j3 hb2
  replace j4 := keep_cell j4 hb2
  have hJ2 := hJ1.below hb2
  have hE2 := hE1.below hb2
  have hB2 := chain hA hb2
  have hA3 := alloc_below w2 (.cells #[.slice j.fa j.nf j.fc, .int .i64 j.main, .slice j.aa j.na j.ac, .int .i64 j.fuel, .int .i64 j.tasks, .slice none 0 0, .bool false] 53)
  have hn3 := heap_alloc_new w2 (.cells #[.slice j.fa j.nf j.fc, .int .i64 j.main, .slice j.aa j.na j.ac, .int .i64 j.fuel, .int .i64 j.tasks, .slice none 0 0, .bool false] 53)
  clear C16 hJ1 hE1 hb2 hA
  go_upto_region 5 with fail
  clear j0 j1 j2 j3 j4
  generalize (w2.alloc (.cells #[.slice j.fa j.nf j.fc, .int .i64 j.main, .slice j.aa j.na j.ac, .int .i64 j.fuel, .int .i64 j.tasks, .slice none 0 0, .bool false] 53)) = w3 at *
  have hM3 : EvM w2.heap.size w3 w2.heap.size j [] (.slice none 0 0) false := ⟨hn3, Nat.le_refl _, World.ownsRow_nil _ _ _ _⟩
  have v1 : w3.cell? ⟨w2.heap.size, 1, none⟩ = some (.int .i64 j.main) := hM3.cell 1 _ rfl
  have v2 : w3.cell? ⟨w2.heap.size, 2, none⟩ = some (.slice j.aa j.na j.ac) := hM3.cell 2 _ rfl
  have C17 := do_ok (v := w2.heap.size) hJ2 hE2 rfl hf hs HCC.out n k h w3 [] (.slice none 0 0) [] mn args j.aa j.na j.ac q hA3 hM3 (fun t m => by cases m) (hJ2.args.below hA3) hJ2.na.symm hn (by simp) hq
  unfold DoPost at C17
  rw [← HMM.out] at C17
  have HB2 := hide hB2
  have hvb := hB2.size
  have hv3 := hA3.size
  clear hJ2 hE2 hf hs hq hn3 hn hM3 hB2
  generalize w2.heap.size = vb at *
  have C17' : Calls Tryz.prog 17 #[.pointer (some ⟨vb, 0, none⟩), .string ⟨#[]⟩, .int .i64 j.main, .slice j.aa j.na j.ac] w3 _ := C17
  clear C17
  go_wp2_with (go_at_call 17; go_must (with_reducible refine C17'.mono ?_; (rintro e w4 ⟨rfl, N, ev', z1, z2, z3, z4⟩); refine Hid.out ?_))
  refine Lib.hid ?_
  clear C17' v1 v2
  obtain ⟨qE, qo, qr, qv⟩ := q
  simp only at z1 z2
  rw [List.nil_append] at z1 z2
  obtain ⟨ea, ec, rfl⟩ := z2.form
  have v5 : w4.cell? ⟨vb, 5, none⟩ = some (.slice ea N.length ec) := z2.cell 5 _ rfl
  have v6 : w4.cell? ⟨vb, 6, none⟩ = some (.bool qo) := z2.cell 6 _ rfl
  have HF := hide (show Below w.heap.size w w4 from HB2.out.trans ((hA3.trans z4.below).mono hvb))
  have HO := hide (own_mono z2.own hvb)
  have HN := hide (z3.mono (Nat.le_trans hvb hv3))
  have HZ := hide z1
  clear z1 z2 z3 z4 hA3
  cases qo with
  | true =>
    go_wp2_with fail
    go_ret2
    exact .inl ⟨rfl, rfl, HF.out⟩
  | false =>
    go_wp2_with fail
    go_ret2
    exact .inr ⟨rfl, N, ea, ec, rfl, HZ.out, HO.out, HN.out, HF.out⟩
theorem num_any (x : Int) (w : World) : Calls Tryz.prog 13 #[.int .i64 x] w fun r w' => r = .returned (.int .i64 x) ∧ w' = w := by
  go_enter Tryz.func13, Tryz.ntmps13
  go_wp2
  go_ret
  exact ⟨rfl, rfl⟩
end Go.Proofs.YtbpcibnomkfglaaGreatDoor
/- The job of one function evaluated; the example of the document. -/

namespace Go.Proofs.YtbpcibnomkfglaaGreatDoor
open Go.RowKit Go.ChangeShapes Go.WideShapes Go.ChangeAt Go.Deep

/-- An entry in its place. -/
structure EnAt (w : World) (g i : Nat) (x : En) : Prop where
  id : w.cell? ⟨g, i * 8, none⟩ = some (.string (bs x.id))
  fn : w.cell? ⟨g, i * 8 + 1, none⟩ = some (.int .i64 (x.fn : Int))
  args : ∃ aa ac, w.cell? ⟨g, i * 8 + 2, none⟩ = some (.slice aa x.args.length ac)
  er : w.cell? ⟨g, i * 8 + 3, none⟩ = some (.int .i64 x.er)
  ev : w.cell? ⟨g, i * 8 + 4, none⟩ = some (.int .i64 x.ev)
  steps : w.cell? ⟨g, i * 8 + 5, none⟩ = some (.int .i64 (x.steps : Int))
  kids : w.cell? ⟨g, i * 8 + 6, none⟩ = some (.int .i64 (x.kids : Int))
  aws : ∃ wa wc, w.cell? ⟨g, i * 8 + 7, none⟩ = some (.slice wa x.awaits.length wc) ∧ Reads w wa (iV x.awaits)
/-- Eval answers these entries. -/
def EvOk (w : World) (E : List En) (e : Ending) (w' : World) : Prop :=
  ∃ g ec, e = .returned (.tuple #[.slice (some ⟨g, 0, none⟩) E.length ec, .int .i64 0]) ∧ (∀ i x, E[i]? = some x → EnAt w' g i x) ∧ Below w.heap.size w w'
theorem EvalPost.ok {w w' : World} {E : List En} {r1 r2 : Int} {e : Ending} (h : EvalPost w (E, false, r1, r2) e w') (hE : E ≠ []) : EvOk w E e w' := by
  rcases h with ⟨h, _⟩ | ⟨_, L, ea, ec, rfl, rfl, h2, h3, h4⟩
  · cases h
  · simp only [ne_eq, List.map_eq_nil_iff] at hE
    rcases h2.2 with ⟨_, q2⟩ | ⟨g, cap, cur, q1, _⟩
    · exact absurd (List.eq_nil_of_length_eq_zero q2) hE
    · simp only [Value.slice.injEq, true_and] at q1
      obtain ⟨rfl, rfl⟩ := q1
      refine ⟨g, ec, by rw [List.length_map], fun i x hx => ?_, h4⟩
      rw [List.getElem?_map] at hx
      obtain ⟨t, ht, rfl⟩ := Option.map_eq_some_iff.1 hx
      have hc : ∀ k u, (rowT t)[k]? = some u → w'.cell? ⟨g, i * 8 + k, none⟩ = some u := fun k u hu => by
        have := h2.cells (g := g) rfl _ _ (rowsE_at L i k t u ht hu)
        rwa [add_none, Nat.zero_add] at this
      obtain ⟨wa, wc, e1, _, _, e2, _⟩ := own_formI (h3 t (List.mem_of_getElem? ht)).aws
      obtain ⟨va, vc, e3, _⟩ := own_formI (h3 t (List.mem_of_getElem? ht)).args
      exact ⟨hc 0 _ rfl, hc 1 _ rfl, ⟨va, vc, by rw [← e3]; exact hc 2 _ rfl⟩, hc 3 _ rfl, hc 4 _ rfl, hc 5 _ rfl, hc 6 _ rfl, wa, wc, by rw [← e1]; exact hc 7 _ rfl, e2⟩
/-- Eval answers that there are too many. -/
def EvNo (w : World) (e : Ending) (w' : World) : Prop := e = .returned (.tuple #[.slice none 0 0, .int .i64 30]) ∧ Below w.heap.size w w'
theorem EvalPost.no {w w' : World} {E : List En} {r1 r2 : Int} {e : Ending} (h : EvalPost w (E, true, r1, r2) e w') : EvNo w e w' := by
  rcases h with ⟨_, h⟩ | ⟨h, _⟩
  · exact h
  · cases h
/-- The same, if it is kept. -/
theorem EnAt.below {w w' : World} {g i : Nat} {x : En} (h : EnAt w g i x) (hb : Below w.heap.size w w') : EnAt w' g i x := by
  obtain ⟨va, vc, h2⟩ := h.args
  obtain ⟨wa, wc, h7, h8⟩ := h.aws
  exact ⟨keep_cell h.id hb, keep_cell h.fn hb, ⟨va, vc, keep_cell h2 hb⟩, keep_cell h.er hb, keep_cell h.ev hb, keep_cell h.steps hb, keep_cell h.kids hb, wa, wc, keep_cell h7 hb, h8.below hb⟩
/-- The steps of entries, added up. -/
def sumS (E : List En) : Nat := (E.map (·.steps)).sum
theorem sumS_take {E : List En} {k : Nat} {x : En} (h : E[k]? = some x) : sumS (E.take (k + 1)) = sumS (E.take k) + x.steps := by
  rw [List.take_add_one, h]
  simp [sumS]
theorem sumS_le (E : List En) (k : Nat) : sumS (E.take k) ≤ sumS E := by
  have h : sumS (E.take k ++ E.drop k) = sumS (E.take k) + sumS (E.drop k) := by simp only [sumS, List.map_append, List.sum_append]
  rw [List.take_append_drop] at h
  omega
set_option linter.unusedSimpArgs false in
set_option maxRecDepth 100000 in
set_option maxHeartbeats 4000000 in
theorem total_any (E : List En) (g ec : Nat) (w : World) (hl : E.length ≤ 100000) (hs : sumS E ≤ 1000000000) (hat : ∀ i x, E[i]? = some x → EnAt w g i x) : Calls Tryz.prog 15 #[.slice (some ⟨g, 0, none⟩) E.length ec] w fun e w' => e = .returned (.tuple #[.int .i64 (E.length : Int), .int .i64 (sumS E : Int)]) ∧ Below w.heap.size w w' := by
  have HAT := hide hat
  have HS := hide hs
  obtain ⟨n, hn⟩ : ∃ n, n = E.length := ⟨_, rfl⟩
  rw [← hn]
  have HN := hide hn
  have hl' : n ≤ 100000 := by omega
  clear hat hs hn hl
  go_enter Tryz.func15, Tryz.ntmps15
  go_wp2_with fail
  go_loopw [3, 8] (fun s i wr => Hid (Below w.heap.size w wr) ∧ ∃ k : Nat, k ≤ n ∧ i = .int .i64 (k : Int) ∧ s = .int .i64 ((sumS (E.take k) : Nat) : Int)) (fun _ i _ => n - (intOf i).toNat)
  case atStart => exact ⟨Below.refl _ _, 0, by omega, rfl, rfl⟩
  case round =>
    obtain ⟨hbw, k, hk, rfl, rfl⟩ := hrel
    by_cases hlt : k < n
    · have hlt' : (k : Int) < (n : Int) := by omega
      obtain ⟨x, hx⟩ : ∃ x, E[k]? = some x := ⟨E[k]'(by rw [← HN.out]; exact hlt), List.getElem?_eq_getElem _⟩
      have a := (HAT.out k x hx).below (hbw.out)
      obtain ⟨va, vc, z2⟩ := a.args
      obtain ⟨wa, wc, z7, _⟩ := a.aws
      have z0 := a.id
      have z1 := a.fn
      have z3 := a.er
      have z4 := a.ev
      have z5 := a.steps
      have z6 := a.kids
      have hsum := sumS_take hx
      have hle := Nat.le_trans (sumS_le E (k + 1)) HS.out
      have HSU := hide (show ((sumS (E.take k) : Nat) : Int) + (x.steps : Int) = ((sumS (E.take (k + 1)) : Nat) : Int) by rw [hsum]; simp)
      have wr1 : IntKind.i64.wrap (((sumS (E.take k) : Nat) : Int) + (x.steps : Int)) = ((sumS (E.take k) : Nat) : Int) + (x.steps : Int) := wrapi (by rw [HSU.out]; omega)
      have wr2 : IntKind.i64.wrap ((k : Int) + 1) = (k : Int) + 1 := wrapi (by omega)
      have HB2 := hide (show Below w.heap.size w (wr.alloc (.cells #[.string (bs x.id), .int .i64 (x.fn : Int), .slice va x.args.length vc, .int .i64 x.er, .int .i64 x.ev, .int .i64 (x.steps : Int), .int .i64 (x.kids : Int), .slice wa x.awaits.length wc] 37)) from hbw.out.alloc hbw.out.size _)
      clear a hx hsum hle
      go_wp2_with fail
      go_roundw
      case rel => exact ⟨HB2, k + 1, by omega, by go_num, by rw [← HSU.out]⟩
      case measure => simp [intOf]; omega
    · have hlt' : ¬ (k : Int) < (n : Int) := by omega
      have hke : k = n := by omega
      have HSU := hide (show E.take k = E by rw [hke, HN.out]; exact List.take_length)
      clear hke
      go_wp2_with fail
      go_ret2
      exact ⟨by rw [HSU.out]; rfl, hbw.out⟩
theorem eval_gen {w : World} {h : Nat} {a : Option Addr} {n cap : Nat} {code : List (Int × Int)} (ar lo fuel tasks : Int) (aa : Option Addr) (na ac : Nat) (args : List Int) (hrow : w.heap[h]? = some (.cells [.string fnm, .int .i64 ar, .int .i64 lo, .slice a n cap].toArray 43 (0, 0))) (hn : code.length = n) (hr : Reads w a (insV code)) (hna : args.length = na) (hra : Reads w aa (iV args)) (hnil : aa = none → args.length = 0 ∧ ac = 0) (hE : Env w) (hb : n ≤ 1000000000) (hC : (checkL [⟨fnm, ar, lo, code⟩] 0 na fuel tasks).2.2 = 0) (m k d : Nat) (q : List En × Bool × Int × Int) (hq : doE [⟨fnm, ar, lo, code⟩] fuel tasks m k d [] [] 0 args = some q) :
    Calls Tryz.prog 11 #[.agg #[.slice (some ⟨h, 0, none⟩) 1 1, .int .i64 0, .slice aa na ac, .int .i64 fuel, .int .i64 tasks]] w (EvalPost w q) :=
  eval_any ⟨some ⟨h, 0, none⟩, 1, 1, 0, aa, na, ac, fuel, tasks⟩ _ _ args w (job_gen ar lo fuel tasks aa na ac args hrow hn hr hna hra) hE (by simp) (fun f hf => by
    simp at hf
    subst hf
    exact ⟨by show code.length ≤ _; omega, by show fnm.size < _; decide⟩) (by rw [hna]; exact hC) hnil 0 rfl m k d q hq
theorem alive_doE : doE (oneF [(1, 5), (18, 0)]) 100 50 101 101 2 [] [] 0 [] = some ([⟨[], 0, [], 0, 5, 2, 0, []⟩], false, 0, 5) := by kernel_rfl
theorem alive_check : (checkL [⟨fnm, 0, 0, [(1, 5), (18, 0)]⟩] 0 0 100 50).2.2 = 0 := by kernel_rfl
set_option linter.unusedSimpArgs false in
set_option maxRecDepth 100000 in
set_option maxHeartbeats 4000000 in
theorem alive_any (w : World) (hE : Env w) : Calls Tryz.prog 10 #[] w fun e w' => e = .returned (.bool true) ∧ Below w.heap.size w w' := by
  have hA := alloc_below w (.cells #[.int .i64 1, .int .i64 5, .int .i64 18, .int .i64 0] 40)
  have hnew := heap_alloc_new w (.cells #[.int .i64 1, .int .i64 5, .int .i64 18, .int .i64 0] 40)
  have hr : Reads (w.alloc (.cells #[.int .i64 1, .int .i64 5, .int .i64 18, .int .i64 0] 40)) (some ⟨w.heap.size, 0, none⟩) (insV [(1, 5), (18, 0)]) := .inr ⟨w.heap.size, 0, rfl, fun i u hu => by
    rw [Nat.zero_add]
    exact cell_row (cs := insV [(1, 5), (18, 0)]) hnew hu⟩
  have hE1 := hE.below hA
  have C14 := one_new (some ⟨w.heap.size, 0, none⟩) 2 2 (w.alloc (.cells #[.int .i64 1, .int .i64 5, .int .i64 18, .int .i64 0] 40))
  simp only [oneJ, JV.cells] at C14
  clear hnew hE
  go_enter Tryz.func10, Tryz.ntmps10
  go_wp2_with (go_at_call 14; go_must (with_reducible refine C14.mono ?_; (rintro e w2 ⟨h1, rfl, hrow, hh, hb2⟩); refine Hid.out ?_))
  refine Lib.hid ?_
  have C11 := eval_gen 0 0 100 50 none 0 0 [] hrow rfl (hr.below hb2) rfl (.inl rfl) (fun _ => ⟨rfl, rfl⟩) (hE1.below hb2) (by decide) alive_check 101 101 2 _ alive_doE
  have hB2 := chain hA hb2
  have C11' : Calls Tryz.prog 11 #[.agg #[.slice (some ⟨h1, 0, none⟩) 1 1, .int .i64 0, .slice none 0 0, .int .i64 100, .int .i64 50]] w2 (EvOk w2 [⟨[], 0, [], 0, 5, 2, 0, []⟩]) := C11.mono fun e w' h => h.ok (by simp)
  unfold EvOk at C11'
  clear C11 C14 hr hE1 hA hrow hh hb2
  go_wp2_with (go_at_call 11; go_must (with_reducible refine C11'.mono ?_; (rintro e w3 ⟨g, ec, rfl, hat, hb3⟩); refine Hid.out ?_))
  refine Lib.hid ?_
  have a0 := hat 0 _ rfl
  have c4 : w3.cell? ⟨g, 4, none⟩ = some (.int .i64 5) := a0.ev
  have c5 : w3.cell? ⟨g, 5, none⟩ = some (.int .i64 2) := a0.steps
  have TN := num_any
  have HF := hide (chain hB2 hb3)
  clear hat a0 C11' hb3 hB2
  go_wp2_with (go_at_call 13; go_must (with_reducible refine (TN _ _).mono ?_; (rintro e w7 ⟨rfl, rfl⟩); refine Hid.out ?_))
  refine Lib.hid ?_
  go_wp2_with fail
  go_ret
  exact ⟨rfl, HF.out⟩
end Go.Proofs.YtbpcibnomkfglaaGreatDoor
