/- CheckDead answers true for every input, and leaves its arguments as they were. The listed variables are tied to the text of the program. -/
import Derived.Test.YtfdgkeljnmamiaaDoorDeadW
import Derived.Test.YtfdgkeljnmamiaaDoorLaid
import Derived.WalkKit
import Derived.ProofKit
import Derived.OpenShut
import Derived.ChangeOld
import Derived.Below
import Derived.Deep.Fields
import Derived.Deep.Grids
namespace Go.Proofs.YtfdgkeljnmamiaaDoor
namespace checkDead
open Go.ChangeShapes Go.WideShapes Go.ChangeAt Go.RowKit Go.Deep

theorem max_is : maxLen = 9223372036854775807 := by decide
theorem cell_spot {W : World} {x : Addr} {k n : Nat} {cs : List Value} (h : W.cells? 0 (x.add k) n = some cs) (hk : k = 0) (hn : 0 < n) : ∃ b off, x = ⟨b, off, none⟩ := by
  obtain ⟨_, hl, hc⟩ := World.cells?_some h
  have h0 := hc 0 hn
  rw [List.getElem?_eq_getElem (by omega)] at h0
  obtain ⟨b, off, sp⟩ := x
  subst hk
  have : sp = none := by simpa [Addr.add] using World.cell?_spot h0
  subst this
  exact ⟨b, off, rfl⟩
theorem insV_of : ∀ (c : List (Int × Int)) (i : Nat) (v : Value), (insV c)[i]? = some v → ∃ x, c[i / 2]? = some x ∧ v = (if i % 2 = 0 then .int .i64 x.1 else .int .i64 x.2)
  | [], i, v, h => by simp [insV] at h
  | a :: r, i, v, h => by
    have e : insV (a :: r) = [.int .i64 a.1, .int .i64 a.2] ++ insV r := by simp [insV]
    rw [e] at h
    match i, h with
    | 0, h => exact ⟨a, rfl, by simpa using h.symm⟩
    | 1, h => exact ⟨a, rfl, by simpa using h.symm⟩
    | i + 2, h =>
      have h' : (insV r)[i]? = some v := by simpa using h
      obtain ⟨x, h1, h2⟩ := insV_of r i v h'
      refine ⟨x, ?_, ?_⟩
      · rw [show (i + 2) / 2 = i / 2 + 1 by omega]; exact h1
      · rw [show (i + 2) % 2 = i % 2 by omega]; exact h2

theorem arg_code {H : Type} {enc : TypeId × Value → H} {W : World} {fuel : Nat} {a : Option Addr} {len cap : Nat} {x : DataW H × List MemPlace} (h : DataW.trod enc Tryd.prog W 0 (fun _ => true) true fuel 41 [.slice a len cap] = some x) :
    ∃ c : List (Int × Int), c.length = len ∧ len ≤ 9223372036854775807 ∧ (∀ x ∈ c, In64 [x.2]) ∧ (a = none → len = 0 ∧ cap = 0) ∧ Reads W a (insV c) := by
  have c3 : Tryd.prog.cellsOf 3 = 1 := by kernel_rfl
  have c43 : Tryd.prog.cellsOf 39 = 2 := by kernel_rfl
  rcases open_slice Tryd.underlying41 h with ⟨hcs, _⟩ | ⟨x, l, c, m, n, D, Pl, hcs, _, hl, hm, hmm, _, hx⟩
  · simp at hcs
    obtain ⟨rfl, rfl, rfl⟩ := hcs
    exact ⟨[], rfl, by omega, (fun x hx => by cases hx), fun _ => ⟨rfl, rfl⟩, .inl rfl⟩
  · simp at hcs
    obtain ⟨rfl, rfl, rfl⟩ := hcs
    simp only [if_true] at hmm
    subst hmm
    rw [max_is] at hm
    rw [c43] at hx
    have key : ∀ i, i < len → ∃ z : Int × Int, In64 [z.2] ∧ W.cells? 0 (x.add (i * 2)) 2 = some [.int .i64 z.1, .int .i64 z.2] := fun i hi => by
      obtain ⟨cs', hc, ht⟩ := hx i (by omega)
      obtain ⟨y0, y1, k, _, hlen, e0, e1⟩ := trod_struct2 Tryd.underlying39 ht
      simp only [c3, c43] at e0 e1 hlen
      obtain ⟨p, i0, _, w0⟩ := DataW.trod_int Tryd.underlying3 e0
      obtain ⟨q, i1, _, w1⟩ := DataW.trod_int Tryd.underlying3 e1
      refine ⟨(p, q), fun z hz => ?_, ?_⟩
      · have : z = q := by simpa using hz
        rw [this]; exact bounds_i64 w1
      · match cs', hlen with
        | [u, v], _ =>
          simp at i0 i1
          rw [hc, i0, i1]
    obtain ⟨F, hF⟩ := choose_lt (α := Int × Int) (n := len) (p := fun i z => In64 [z.2] ∧ W.cells? 0 (x.add (i * 2)) 2 = some [.int .i64 z.1, .int .i64 z.2]) key
    refine ⟨(List.range len).map F, by simp, by omega, fun z hz => ?_, fun h => (by cases h), ?_⟩
    · obtain ⟨i, hi, rfl⟩ := List.mem_map.1 hz
      exact (hF i (by simpa using hi)).1
    · by_cases h0 : len = 0
      · left
        subst h0
        simp [insV]
      · obtain ⟨b, off, rfl⟩ := cell_spot (hF 0 (by omega)).2 (by omega) (by omega)
        refine .inr ⟨b, off, rfl, fun j u hu => ?_⟩
        obtain ⟨z, hz, rfl⟩ := insV_of _ _ _ hu
        rw [List.getElem?_map] at hz
        obtain ⟨i, hi, rfl⟩ := Option.map_eq_some_iff.1 hz
        have hij : i = j / 2 ∧ j / 2 < len := by
          have := List.getElem?_eq_some_iff.1 hi
          obtain ⟨h1, h2⟩ := this
          simp at h1 h2
          omega
        obtain ⟨rfl, hlt⟩ := hij
        have hcl := (World.cells?_some (hF (j / 2) hlt).2).2.2
        by_cases hp : j % 2 = 0
        · rw [if_pos hp]
          have := hcl 0 (by omega)
          rw [add_none, add_none] at this
          rw [show off + j = off + j / 2 * 2 + 0 by omega, this]; rfl
        · rw [if_neg hp]
          have := hcl 1 (by omega)
          rw [add_none, add_none] at this
          rw [show off + j = off + j / 2 * 2 + 1 by omega, this]; rfl


theorem laidOut : laidOutB Tryd.prog = true := by kernel_rfl
theorem rowLaid : Rows.checkDeadRow.laid = laids := rfl

set_option maxRecDepth 100000 in
theorem lifted (os : Os) (started : os.Started) (H : Type) (enc : TypeId × Value → H) :
    ReturnsInHanded {} Tryd.checked os 8 .any (fun w args => (Rows.checkDeadSpec.pre enc Tryd.prog Tryd.f8 Rows.checkDeadRow.domain false w args ∧ laidMetH Tryd.prog Rows.checkDeadRow.laid w) ∧ sizedMet enc Tryd.prog Tryd.f8 (OpenSpec.ofChange Rows.checkDeadSpec) false w args) (Rows.checkDeadSpec.post enc Tryd.prog Tryd.f8 false true false false) := by
  refine returnsInHanded_of_change_and (C := Tryd.checked) (X := fun w _ => laidMetH Tryd.prog Rows.checkDeadRow.laid w) (fun _ _ _ hh h => h.of_heap hh) own started (by kernel_rfl) Tryd.func8
    (ChangeSpec.witness_shaped (enc := enc) (C := Tryd.checked) (os := os) (X := fun w _ => laidMetH Tryd.prog Rows.checkDeadRow.laid w) false (World.doorLaid Tryd.prog 400 os) #[.slice none 0 0] 8 rfl
      (World.shaped_of_RefB (by kernel_rfl) (by kernel_rfl)) (by kernel_rfl) (by kernel_rfl) (by kernel_rfl) (door_met os _)) ?_
  intro W base args ds gs before hval0 hW hcnd _ hL _
  have hval : ∀ (j : Nat) t v, Tryd.f8.params[j]? = some t → args[j]? = some v → Value.okWide Tryd.prog W .any base t v := hval0
  have hW' := hW
  obtain ⟨p, q, hA0, hV, rfl, hfz, hnd⟩ := hW
  have hA : DataW.TrodAll enc Tryd.prog W 0 (fun _ => true) true Tryd.f8.params.toList args.toList ds p := hA0
  rw [Tryd.params8] at hA hval
  obtain ⟨v0, vs0, d0, ds0, p0, q0, hargs, rfl, rfl, h0, r0⟩ := trodAll_cons hA
  obtain ⟨rfl, rfl, rfl⟩ := trodAll_nil r0
  obtain rfl : args = #[v0] := by cases args; simp_all
  obtain ⟨rfl, rfl⟩ := trodVars_none hV
  obtain ⟨a0, l0, c0, rfl⟩ := okWide_slice Tryd.underlying41 (hval 0 41 v0 rfl rfl)
  have lt0 : ∀ x ∈ p0, x.block < W.heap.size := by obtain ⟨m, hm⟩ := h0; exact DataW.trod_lt m _ _ _ hm
  obtain ⟨l, hl, _, _, hnil, hr⟩ : ∃ c : List (Int × Int), c.length = l0 ∧ l0 ≤ 9223372036854775807 ∧ (∀ x ∈ c, In64 [x.2]) ∧ (a0 = Option.none → l0 = 0 ∧ c0 = 0) ∧ Reads W a0 (insV c) := by
    obtain ⟨m, hm⟩ := h0
    exact arg_code hm
  clear hA0 hval0
  refine (dead_any l a0 l0 c0 hl hnil W hr (env_of_laid (rowLaid ▸ hL))).mono fun e W' ⟨he, bel⟩ => ?_
  subst he
  exact ⟨_, rfl, _, _, _, [], _, [], hW', trodAll_mk1 (shut_bool Tryd.underlying4 _), (trodAll_cons_mk (Below.trod laidOut (by kernel_rfl) (of_decide_eq_true (by kernel_rfl)) h0 bel lt0) trodAll_mk0), rfl, bel.frame _, fun h => by cases h⟩

theorem over : Rows.checkDeadRow.holds Tryd.pinned (OpenSpec.ofChange Rows.checkDeadSpec) :=
  OpenClaim.holds_of_wide 8 Tryd.f8 rfl rfl rfl rfl rfl rfl rfl ⟨rfl, rfl, rfl, rfl, rfl⟩ rfl rfl rfl rfl rfl (by kernel_rfl) Tryd.func8 (by kernel_rfl)
    (of_decide_eq_true (by kernel_rfl)) (by unfold Func.isWrapper; first | (rw [if_pos (by decide +kernel)]; kernel_rfl) | (rw [if_neg (by decide +kernel)]; exact ⟨rfl, rfl⟩))
    (fun os started H enc _ => lifted os started H enc)
end checkDead

theorem checkDead_card : Rows.CheckDeadCardSaid :=
  Claim7.holds_tied_plain_at .later [] [.data, .handle] true (true, "ed97351fddc2dce0b497017e8ad74fcaaac12e7fcf76d77dce3ce8423c87a034") true checkDead.over (fun _ h => by cases h) (by kernel_rfl) (fun _ h => by cases h) checkDead_row_tie rfl ⟨rfl, rfl⟩ (by kernel_rfl) rfl
    (fun f fn hf hfn => by
      obtain rfl : f = 8 := Option.some.inj ((show Tryd.prog.funcNamed "gleaner/gleanerlaw5.CheckDead" = some 8 by kernel_rfl).symm.trans hf) |>.symm
      obtain rfl : fn = Tryd.f8 := (Option.some.inj (Tryd.func8.symm.trans hfn)).symm
      exact ⟨by kernel_rfl, fun j t ht => by
        rw [Tryd.params8] at ht
        have hm : t ∈ [41] := by simpa using Array.mem_of_getElem? ht
        have hall : ([41].all fun u => !Tryd.prog.wantsStandIn u) = true := by kernel_rfl
        exact (show Tryd.prog.wantsStandIn t = false by simpa using List.all_eq_true.1 hall t hm)⟩)
    (by kernel_rfl)
#print axioms checkDead_card
end Go.Proofs.YtfdgkeljnmamiaaDoor
