/- CheckEach's walk. -/
import Derived.Test.YtfdgkeljnmamiaaDoorTallW
import Derived.Deep.RegionLawGrows
namespace Go.Proofs.YtfdgkeljnmamiaaDoor
open Go.RowKit Go.ChangeShapes Go.WideShapes Go.ChangeAt Go.Deep

set_option maxRecDepth 100000 in
set_option maxHeartbeats 400000 in
theorem one_at (a : Option Addr) (n cap : Nat) (w : World) : Calls Tryd.prog 17 #[.slice a n cap] w fun r w' => r = .returned (.agg (oneJ (w.heap.size + 1)).cells) ∧ w'.heap[w.heap.size + 1]? = some (.cells [.string fnm, .int .i64 0, .int .i64 0, .slice a n cap].toArray 43 (0, 0)) ∧ Below w.heap.size w w' := by
  go_enter Tryd.func17, Tryd.ntmps17
  go_wp2
  refine bodyPost_ret (v := .agg #[.slice (some ⟨w.heap.size + 1, 0, none⟩) 1 1, .int .i64 0, .slice none 0 0, .int .i64 100, .int .i64 50]) (by simp [results, Tryd.results17, go_sem]) rfl ?_
  refine ⟨rfl, ?_, ?_⟩
  · have := heap_alloc_new (w.alloc (.cells #[.slice (some ⟨w.heap.size + 1, 0, none⟩) 1 1, .int .i64 0, .slice none 0 0, .int .i64 100, .int .i64 50] 25)) (.cells #[.string ⟨#[102]⟩, .int .i64 0, .int .i64 0, .slice a n cap] 43)
    rwa [show (w.alloc (.cells #[.slice (some ⟨w.heap.size + 1, 0, none⟩) 1 1, .int .i64 0, .slice none 0 0, .int .i64 100, .int .i64 50] 25)).heap.size = w.heap.size + 1 by simp] at this
  · exact ((Below.refl _ _).alloc (Nat.le_refl _) _).alloc (by simp) _

theorem job1 {w : World} {h : Nat} {nm : ByteArray} {ar lo : Int} {ca : Option Addr} {cn cc : Nat} {code : List (Int × Int)} {fc : Nat} {mn : Int} {aa : Option Addr} {na ac : Nat} {fu ta : Int} {args : List Int} (hrow : w.heap[h]? = some (.cells [.string nm, .int .i64 ar, .int .i64 lo, .slice ca cn cc].toArray 43 (0, 0))) (hn : code.length = cn) (hr : Reads w ca (insV code)) (hfc : 1 ≤ fc) (hna : na = args.length) (hra : Reads w aa (iV args)) :
    JobR w ⟨some ⟨h, 0, none⟩, 1, fc, mn, aa, na, ac, fu, ta⟩ [.slice ca cn cc] [⟨nm, ar, lo, code⟩] args :=
  ⟨rfl, hfc, rfl, .inr ⟨h, 0, rfl, lt_row hrow, fun j hj i v hv => by
      have hj0 : j = 0 := by simp [frs] at hj; omega
      subst hj0
      rw [show 0 + 0 * 4 + i = i by omega]
      exact cell_row hrow hv⟩, fun i h h' => by
        have hi : i = 0 := by simp at h; omega
        subst hi
        exact ⟨ca, cc, by simp [hn], by simpa using hr⟩, hna, hra⟩
theorem Tryd.info43 : (Tryd.prog.info? 43).map (fun i => (i.zero, i.size, i.bytes)) = some (some (.agg #[.string ⟨#[]⟩, .int .i64 0, .int .i64 0, .slice none 0 0]), 4, 56) := by kernel_rfl
theorem reads_row {w : World} {g : Nat} {xs : List Value} {t : TypeId} (h : w.heap[g]? = some (.cells xs.toArray t (0, 0))) : Reads w (some ⟨g, 0, none⟩) xs := .inr ⟨g, 0, rfl, fun j u hu => by rw [Nat.zero_add]; exact cell_row h hu⟩
theorem each_fin {w W : World} {j : JV} {cs : List Value} {fs : List Fun} {args : List Int} {want : Int} (hE : Env w) (hb : Below w.heap.size w W) (hJ : JobR W j cs fs args) (hf : fs.length ≤ 1000000000) (hs : ∀ f ∈ fs, f.code.length ≤ 1000000000 ∧ f.name.size < 4294967281) (hres : (checkL fs j.main args.length j.fuel j.tasks).2.2 = want) :
    Calls Tryd.prog 11 #[.agg j.cells] W fun r w' => ∃ r0 r1, r = .returned (.tuple #[.int .i64 r0, .int .i64 r1, .int .i64 want]) ∧ Below w.heap.size w w' :=
  (check_any j cs fs args W hJ (hE.below hb) hf hs).mono fun r w' ⟨h1, h2⟩ => ⟨(checkL fs j.main args.length j.fuel j.tasks).1, (checkL fs j.main args.length j.fuel j.tasks).2.1, by rw [h1, hres], chain hb h2⟩
theorem own_ne {w : World} {B e k n b t : Nat} {v : Value} {xs : List Value} {cs : Array Value} (h : w.ownsRow B e k v n xs) (hb : w.heap[b]? = some (.cells cs t (0, 0))) (hne : t ≠ e) : v.ownBlock = none ∨ v.ownBlock ≠ some b := by
  rcases h.2 with ⟨rfl, _⟩ | ⟨g, cap, cur, rfl, _, hh, _⟩
  · exact .inl rfl
  · refine .inr (fun hq => ?_)
    simp [Value.ownBlock] at hq
    subst hq
    exact tag_ne hb hne hh
theorem job2 {w : World} {B c cap : Nat} {va : Option Addr} {mn fu ta : Int} (ho : w.ownsRow B 43 4 (.slice va (1 + 1) cap) (1 + 1) ([.string fnm, .int .i64 0, .int .i64 0, .slice (some ⟨c, 0, none⟩) 2 2] ++ [.string fnm, .int .i64 0, .int .i64 0, .slice (some ⟨c, 0, none⟩) 2 2])) (hr : Reads w (some ⟨c, 0, none⟩) (insV [(1, 5), (18, 0)])) :
    JobR w ⟨va, 1 + 1, cap, mn, none, 0, 0, fu, ta⟩ [.slice (some ⟨c, 0, none⟩) 2 2, .slice (some ⟨c, 0, none⟩) 2 2] [⟨fnm, 0, 0, [(1, 5), (18, 0)]⟩, ⟨fnm, 0, 0, [(1, 5), (18, 0)]⟩] [] := by
  rcases ho.2 with ⟨h0, _⟩ | ⟨g, cap', cur, hv, _, hh, hle, _, _, _⟩
  · simp at h0
  · simp at hv
    obtain ⟨rfl, rfl⟩ := hv
    refine ⟨rfl, hle, rfl, .inr ⟨g, 0, rfl, lt_row hh, fun j hj i v hvv => ?_⟩, fun i h h' => ?_, rfl, .inl rfl⟩
    · have hj2 : j = 0 ∨ j = 1 := by simp [frs] at hj; omega
      have hi4 : i < 4 := by
        rcases Nat.lt_or_ge i 4 with h | h
        · exact h
        · rw [List.getElem?_eq_none (by simpa [FR.enc] using h)] at hvv; cases hvv
      have := ho.cells (g := g) rfl (j * 4 + i) v (by
        rcases hj2 with rfl | rfl
        · match i, hi4, hvv with
          | 0, _, hvv => exact hvv
          | 1, _, hvv => exact hvv
          | 2, _, hvv => exact hvv
          | 3, _, hvv => exact hvv
        · match i, hi4, hvv with
          | 0, _, hvv => exact hvv
          | 1, _, hvv => exact hvv
          | 2, _, hvv => exact hvv
          | 3, _, hvv => exact hvv)
      rw [add_none] at this
      rw [← this]; congr 2; omega
    · have hi : i = 0 ∨ i = 1 := by simp at h; omega
      rcases hi with rfl | rfl
      · exact ⟨_, 2, rfl, hr⟩
      · exact ⟨_, 2, rfl, hr⟩
theorem each_r17 : (checkL [⟨fnm, 0, 0, [(1, 5), (18, 0)]⟩, ⟨fnm, 0, 0, [(1, 5), (18, 0)]⟩] 0 0 100 50).2.2 = 6 := by decide +kernel
theorem reads_take1 {w : World} {a : Option Addr} {p q r s : Value} (h : Reads w a [p, q, r, s]) : Reads w a [p, q] := by
  rcases h with h | ⟨b, off, e, h⟩
  · cases h
  · exact .inr ⟨b, off, e, fun j u hu => h j u (by
      match j, hu with
      | 0, hu => exact hu
      | 1, hu => exact hu
      | j + 2, hu => simp at hu)⟩
theorem small1 {f : Fun} {n s : Nat} (hc : f.code.length = n) (hn : f.name.size = s) (h1 : n ≤ 1000000000) (h2 : s < 4294967281) : ∀ g ∈ [f], g.code.length ≤ 1000000000 ∧ g.name.size < 4294967281 := fun g hg => by
  simp only [List.mem_singleton] at hg
  subst hg
  exact ⟨by omega, by omega⟩
set_option maxRecDepth 100000 in
theorem each_r0 (m : Nat) (h1 : 1 ≤ m) (h2 : m ≤ 200) : (checkL [] 0 0 (100) (50)).2.2 = 14 := by
  have : ∀ m : Fin 201, 1 ≤ m.1 → (checkL [] 0 0 (100) (50)).2.2 = 14 := by decide +kernel
  exact this ⟨m, by omega⟩ h1
set_option maxRecDepth 100000 in
theorem each_r1 (m : Nat) (h1 : 1 ≤ m) (h2 : m ≤ 200) : (checkL [⟨fnm, 0, 0, [(1, 5), (18, 0)]⟩] 0 0 (5000 + (m : Int)) (50)).2.2 = 16 := by
  have : ∀ m : Fin 201, 1 ≤ m.1 → (checkL [⟨fnm, 0, 0, [(1, 5), (18, 0)]⟩] 0 0 (5000 + (m.1 : Int)) (50)).2.2 = 16 := by decide +kernel
  exact this ⟨m, by omega⟩ h1
set_option maxRecDepth 100000 in
theorem each_r2 (m : Nat) (h1 : 1 ≤ m) (h2 : m ≤ 200) : (checkL [⟨fnm, 0, 0, [(1, 5), (18, 0)]⟩] 0 0 (100) (1 - (m : Int))).2.2 = 16 := by
  have : ∀ m : Fin 201, 1 ≤ m.1 → (checkL [⟨fnm, 0, 0, [(1, 5), (18, 0)]⟩] 0 0 (100) (1 - (m.1 : Int))).2.2 = 16 := by decide +kernel
  exact this ⟨m, by omega⟩ h1
set_option maxRecDepth 100000 in
theorem each_r3 (m : Nat) (h1 : 1 ≤ m) (h2 : m ≤ 200) : (checkL [⟨fnm, 0, 0, [(1, 5), (18, 0)]⟩] (m : Int) 0 (100) (50)).2.2 = 14 := by
  have : ∀ m : Fin 201, 1 ≤ m.1 → (checkL [⟨fnm, 0, 0, [(1, 5), (18, 0)]⟩] (m.1 : Int) 0 (100) (50)).2.2 = 14 := by decide +kernel
  exact this ⟨m, by omega⟩ h1
set_option maxRecDepth 100000 in
theorem each_r4 (m : Nat) (h1 : 1 ≤ m) (h2 : m ≤ 200) : (checkL [⟨fnm, 0, 0, [(1, 5), (18, 0)]⟩] 0 m (100) (50)).2.2 = 15 := by
  have : ∀ m : Fin 201, 1 ≤ m.1 → (checkL [⟨fnm, 0, 0, [(1, 5), (18, 0)]⟩] 0 m.1 (100) (50)).2.2 = 15 := by decide +kernel
  exact this ⟨m, by omega⟩ h1
set_option maxRecDepth 100000 in
theorem each_r5 (m : Nat) (h1 : 1 ≤ m) (h2 : m ≤ 200) : (checkL [⟨⟨#[70]⟩, 0, 0, [(1, 5), (18, 0)]⟩] 0 0 (100) (50)).2.2 = 6 := by
  have : ∀ m : Fin 201, 1 ≤ m.1 → (checkL [⟨⟨#[70]⟩, 0, 0, [(1, 5), (18, 0)]⟩] 0 0 (100) (50)).2.2 = 6 := by decide +kernel
  exact this ⟨m, by omega⟩ h1
set_option maxRecDepth 100000 in
theorem each_r6 (m : Nat) (h1 : 1 ≤ m) (h2 : m ≤ 200) : (checkL [⟨fnm, 8 + (m : Int), 0, [(1, 5), (18, 0)]⟩] 0 (m + 8) (100) (50)).2.2 = 15 := by
  have : ∀ m : Fin 201, 1 ≤ m.1 → (checkL [⟨fnm, 8 + (m.1 : Int), 0, [(1, 5), (18, 0)]⟩] 0 (m.1 + 8) (100) (50)).2.2 = 15 := by decide +kernel
  exact this ⟨m, by omega⟩ h1
set_option maxRecDepth 100000 in
theorem each_r7 (m : Nat) (h1 : 1 ≤ m) (h2 : m ≤ 200) : (checkL [⟨fnm, 0, 16 + (m : Int), [(1, 5), (18, 0)]⟩] 0 0 (100) (50)).2.2 = 13 := by
  have : ∀ m : Fin 201, 1 ≤ m.1 → (checkL [⟨fnm, 0, 16 + (m.1 : Int), [(1, 5), (18, 0)]⟩] 0 0 (100) (50)).2.2 = 13 := by decide +kernel
  exact this ⟨m, by omega⟩ h1
set_option maxRecDepth 100000 in
theorem each_r8 (m : Nat) (h1 : 1 ≤ m) (h2 : m ≤ 200) : (checkL [⟨fnm, 0, 0, []⟩] 0 0 (100) (50)).2.2 = 3 := by
  have : ∀ m : Fin 201, 1 ≤ m.1 → (checkL [⟨fnm, 0, 0, []⟩] 0 0 (100) (50)).2.2 = 3 := by decide +kernel
  exact this ⟨m, by omega⟩ h1
set_option maxRecDepth 100000 in
theorem each_r9 (m : Nat) (h1 : 1 ≤ m) (h2 : m ≤ 200) : (checkL [⟨fnm, 0, 0, [(19 + (m : Int), 5), (18, 0)]⟩] 0 0 (100) (50)).2.2 = 10 := by
  have : ∀ m : Fin 201, 1 ≤ m.1 → (checkL [⟨fnm, 0, 0, [(19 + (m.1 : Int), 5), (18, 0)]⟩] 0 0 (100) (50)).2.2 = 10 := by decide +kernel
  exact this ⟨m, by omega⟩ h1
set_option maxRecDepth 100000 in
theorem each_r10 (m : Nat) (h1 : 1 ≤ m) (h2 : m ≤ 200) : (checkL [⟨fnm, 0, 0, [(1, 5), (18, (m : Int))]⟩] 0 0 (100) (50)).2.2 = 10 := by
  have : ∀ m : Fin 201, 1 ≤ m.1 → (checkL [⟨fnm, 0, 0, [(1, 5), (18, (m.1 : Int))]⟩] 0 0 (100) (50)).2.2 = 10 := by decide +kernel
  exact this ⟨m, by omega⟩ h1
set_option maxRecDepth 100000 in
theorem each_r11 (m : Nat) (h1 : 1 ≤ m) (h2 : m ≤ 200) : (checkL [⟨fnm, 0, 0, [(5, (m : Int)), (18, 0)]⟩] 0 0 (100) (50)).2.2 = 13 := by
  have : ∀ m : Fin 201, 1 ≤ m.1 → (checkL [⟨fnm, 0, 0, [(5, (m.1 : Int)), (18, 0)]⟩] 0 0 (100) (50)).2.2 = 13 := by decide +kernel
  exact this ⟨m, by omega⟩ h1
set_option maxRecDepth 100000 in
theorem each_r12 (m : Nat) (h1 : 1 ≤ m) (h2 : m ≤ 200) : (checkL [⟨fnm, 0, 0, [(14, 1 + (m : Int)), (18, 0)]⟩] 0 0 (100) (50)).2.2 = 11 := by
  have : ∀ m : Fin 201, 1 ≤ m.1 → (checkL [⟨fnm, 0, 0, [(14, 1 + (m.1 : Int)), (18, 0)]⟩] 0 0 (100) (50)).2.2 = 11 := by decide +kernel
  exact this ⟨m, by omega⟩ h1
set_option maxRecDepth 100000 in
theorem each_r13 (m : Nat) (h1 : 1 ≤ m) (h2 : m ≤ 200) : (checkL [⟨fnm, 0, 0, [(16, (m : Int)), (18, 0)]⟩] 0 0 (100) (50)).2.2 = 14 := by
  have : ∀ m : Fin 201, 1 ≤ m.1 → (checkL [⟨fnm, 0, 0, [(16, (m.1 : Int)), (18, 0)]⟩] 0 0 (100) (50)).2.2 = 14 := by decide +kernel
  exact this ⟨m, by omega⟩ h1
set_option maxRecDepth 100000 in
theorem each_r14 (m : Nat) (h1 : 1 ≤ m) (h2 : m ≤ 200) : (checkL [⟨fnm, 0, 0, [(1, 5)]⟩] 0 0 (100) (50)).2.2 = 11 := by
  have : ∀ m : Fin 201, 1 ≤ m.1 → (checkL [⟨fnm, 0, 0, [(1, 5)]⟩] 0 0 (100) (50)).2.2 = 11 := by decide +kernel
  exact this ⟨m, by omega⟩ h1
set_option maxRecDepth 100000 in
theorem each_r15 (m : Nat) (h1 : 1 ≤ m) (h2 : m ≤ 200) : (checkL [⟨fnm, 0, 0, [(4, 0), (18, 0)]⟩] 0 0 (100) (50)).2.2 = 12 := by
  have : ∀ m : Fin 201, 1 ≤ m.1 → (checkL [⟨fnm, 0, 0, [(4, 0), (18, 0)]⟩] 0 0 (100) (50)).2.2 = 12 := by decide +kernel
  exact this ⟨m, by omega⟩ h1
set_option maxRecDepth 100000 in
theorem each_r16 (m : Nat) (h1 : 1 ≤ m) (h2 : m ≤ 200) : (checkL [⟨fnm, 0, 0, [(1, 0), (14, 0)]⟩] 0 0 (100) (50)).2.2 = 12 := by
  have : ∀ m : Fin 201, 1 ≤ m.1 → (checkL [⟨fnm, 0, 0, [(1, 0), (14, 0)]⟩] 0 0 (100) (50)).2.2 = 12 := by decide +kernel
  exact this ⟨m, by omega⟩ h1

set_option maxRecDepth 100000 in
set_option maxHeartbeats 16000000 in
set_option linter.unusedSimpArgs false in
theorem each_any (x y : Int) (w : World) (hE : Env w) : Calls Tryd.prog 5 #[.int .i64 x, .int .i64 y] w fun r w' => r = .returned (.bool true) ∧ Below w.heap.size w w' := by
  have CA := alive_any w hE
  by_cases h1 : y < 1
  · go_enter Tryd.func5, Tryd.ntmps5
    go_wp2_with (go_at_call 9; go_must (with_reducible refine CA.mono ?_; (rintro e w1 ⟨rfl, hb1⟩)))
    go_ret
    exact ⟨rfl, hb1⟩
  by_cases h2 : 200 < y
  · go_enter Tryd.func5, Tryd.ntmps5
    go_wp2_with (go_at_call 9; go_must (with_reducible refine CA.mono ?_; (rintro e w1 ⟨rfl, hb1⟩)))
    go_ret
    exact ⟨rfl, hb1⟩
  obtain ⟨m, rfl⟩ : ∃ m : Nat, y = (m : Int) := ⟨y.toNat, by omega⟩
  have hm1 : 1 ≤ m := by omega
  have hm2 : m ≤ 200 := by omega
  have C1 := fun a w => one_at a 2 2 w
  go_enter Tryd.func5, Tryd.ntmps5
  go_wp2_with (first
    | (go_at_call 9; go_must (with_reducible refine CA.mono ?_; (rintro e w1 ⟨rfl, hb1⟩)))
    | (go_at_call 17; refine Hid.out ?_))
  refine Lib.hid ?_
  have hbA := chain hb1 (alloc_below w1 (.cells #[.int .i64 1, .int .i64 5, .int .i64 18, .int .i64 0] 39))
  have hcA : (w1.alloc (.cells #[.int .i64 1, .int .i64 5, .int .i64 18, .int .i64 0] 39)).heap[w1.heap.size]? = some (.cells [.int .i64 1, .int .i64 5, .int .i64 18, .int .i64 0].toArray 39 (0, 0)) := heap_alloc_new w1 _
  have hcw := hb1.size
  have hhw := hbA.size
  refine (C1 _ _).mono ?_
  rintro e w3 ⟨rfl, hrow3, hb3⟩
  have hbB := chain hbA hb3
  have hcB := heap_row hcA hb3
  simp only [oneJ, JV.cells]
  generalize hhd : (w1.alloc (.cells #[.int .i64 1, .int .i64 5, .int .i64 18, .int .i64 0] 39)).heap.size + 1 = h at *
  have hhw2 : w.heap.size ≤ h := by omega
  clear CA C1 hcA hbA hb3 hb1 hhd hhw
  generalize w1.heap.size = c at *
  have hbC := chain hbB (alloc_below w3 (.cells #[.slice (some ⟨h, 0, none⟩) 1 1, .int .i64 0, .slice none 0 0, .int .i64 100, .int .i64 50] 25))
  have rb : (w3.alloc (.cells #[.slice (some ⟨h, 0, none⟩) 1 1, .int .i64 0, .slice none 0 0, .int .i64 100, .int .i64 50] 25)).heap[w3.heap.size]? = some (.cells [.slice (some ⟨h, 0, none⟩) 1 1, .int .i64 0, .slice none 0 0, .int .i64 100, .int .i64 50].toArray 25 (0, 0)) := heap_alloc_new w3 _
  have rc := heap_row hcB (alloc_below w3 (.cells #[.slice (some ⟨h, 0, none⟩) 1 1, .int .i64 0, .slice none 0 0, .int .i64 100, .int .i64 50] 25))
  have rh := heap_row hrow3 (alloc_below w3 (.cells #[.slice (some ⟨h, 0, none⟩) 1 1, .int .i64 0, .slice none 0 0, .int .i64 100, .int .i64 50] 25))
  have hle3 := hbB.size
  go_upto_region 5 with fail
  clear hbB hcB hrow3
  generalize (w3.alloc (.cells #[.slice (some ⟨h, 0, none⟩) 1 1, .int .i64 0, .slice none 0 0, .int .i64 100, .int .i64 50] 25)) = wz at *
  generalize w3.heap.size = b at *
  have nbh := tags_ne rb rh (by decide)
  have nbc := tags_ne rb rc (by decide)
  have nhc := tags_ne rh rc (by decide)
  have nhb := nbh.symm
  have ncb := nbc.symm
  have nch := nhc.symm
  have b0 := cell_row (i := 0) rb rfl
  have b1 := cell_row (i := 1) rb rfl
  have b2 := cell_row (i := 2) rb rfl
  have b3 := cell_row (i := 3) rb rfl
  have b4 := cell_row (i := 4) rb rfl
  have f0 := cell_row (i := 0) rh rfl
  have f1 := cell_row (i := 1) rh rfl
  have f2 := cell_row (i := 2) rh rfl
  have f3 := cell_row (i := 3) rh rfl
  have c0 := cell_row (i := 0) rc rfl
  have c1 := cell_row (i := 1) rc rfl
  have c2 := cell_row (i := 2) rc rfl
  have c3 := cell_row (i := 3) rc rfl
  have zb := fun i => frozen_row (i := i) rb
  have zh := fun i => frozen_row (i := i) rh
  have zc := fun i => frozen_row (i := i) rc
  have HRB := hide rb
  have HRH := hide rh
  have HRC := hide rc
  have HBC := hide hbC
  have NM := fun e w => num_any e w
  clear rb rh rc hbC
  have q5000 : wrap64 (5000 + (m : Int)) = 5000 + (m : Int) := IntWalk.wrap64_in _ (by omega)
  have q8 : wrap64 (8 + (m : Int)) = 8 + (m : Int) := IntWalk.wrap64_in _ (by omega)
  have q16 : wrap64 (16 + (m : Int)) = 16 + (m : Int) := IntWalk.wrap64_in _ (by omega)
  have q19 : wrap64 (19 + (m : Int)) = 19 + (m : Int) := IntWalk.wrap64_in _ (by omega)
  have q1 : wrap64 (1 + (m : Int)) = 1 + (m : Int) := IntWalk.wrap64_in _ (by omega)
  have qs : wrap64 (1 - (m : Int)) = 1 - (m : Int) := IntWalk.wrap64_in _ (by omega)
  have mk4 := mk_ints m (by omega)
  have mk6 : ∀ w, (Instr.makeSlice 23 (.int .i64 (8 + (m : Int))) (.int .i64 (8 + (m : Int)))).run Tryd.prog w = .ok (.slice (some ⟨w.heap.size, 0, none⟩) (m + 8) (m + 8)) (w.alloc (.cells (iV (List.replicate (m + 8) 0)).toArray 3)) := fun w => by
    have := mk_ints (m + 8) (by omega) w
    rwa [show ((m + 8 : Nat) : Int) = 8 + (m : Int) by omega] at this
  by_cases k0 : x = 0
  · subst k0
    have sb1 := set_row (i := 0) HRB.out (.slice none 0 0)
    have sh1 : (wz.setCell ⟨b, 0, none⟩ (.slice none 0 0)).heap[h]? = _ := (Below.heap_setCell _ _ _ _ (by simpa using nhb)).trans HRH.out
    have sc1 : (wz.setCell ⟨b, 0, none⟩ (.slice none 0 0)).heap[c]? = _ := (Below.heap_setCell _ _ _ _ (by simpa using ncb)).trans HRC.out
    have sB1 := HBC.out.setCell (p := ⟨b, 0, none⟩) (by show w.heap.size ≤ b; omega) (.slice none 0 0)
    have w0 : (wz.setCell ⟨b, 0, none⟩ (.slice none 0 0)).cell? ⟨b, 0, none⟩ = some (.slice none 0 0) := cell_row (cs := [.slice none 0 0, .int .i64 0, .slice none 0 0, .int .i64 100, .int .i64 50]) (i := 0) sb1 rfl
    have w1 : (wz.setCell ⟨b, 0, none⟩ (.slice none 0 0)).cell? ⟨b, 1, none⟩ = some (.int .i64 0) := cell_row (cs := [.slice none 0 0, .int .i64 0, .slice none 0 0, .int .i64 100, .int .i64 50]) (i := 1) sb1 rfl
    have w2 : (wz.setCell ⟨b, 0, none⟩ (.slice none 0 0)).cell? ⟨b, 2, none⟩ = some (.slice none 0 0) := cell_row (cs := [.slice none 0 0, .int .i64 0, .slice none 0 0, .int .i64 100, .int .i64 50]) (i := 2) sb1 rfl
    have w3 : (wz.setCell ⟨b, 0, none⟩ (.slice none 0 0)).cell? ⟨b, 3, none⟩ = some (.int .i64 100) := cell_row (cs := [.slice none 0 0, .int .i64 0, .slice none 0 0, .int .i64 100, .int .i64 50]) (i := 3) sb1 rfl
    have w4 : (wz.setCell ⟨b, 0, none⟩ (.slice none 0 0)).cell? ⟨b, 4, none⟩ = some (.int .i64 50) := cell_row (cs := [.slice none 0 0, .int .i64 0, .slice none 0 0, .int .i64 100, .int .i64 50]) (i := 4) sb1 rfl
    have HJ := hide (⟨rfl, Nat.le_refl _, rfl, .inl ⟨rfl, rfl⟩, fun i h => by simp at h, rfl, .inl rfl⟩ : JobR (wz.setCell ⟨b, 0, none⟩ (.slice none 0 0)) ⟨none, 0, 0, 0, none, 0, 0, 100, 50⟩ [] [] [])
    have HB := hide sB1
    have C := each_fin (want := 14) hE HB.out HJ.out (by simp) (fun f hf => by simp at hf) (each_r0 m hm1 hm2)
    simp only [JV.cells] at C
    clear sb1 sh1 sc1 sB1
    go_wp2_with (first
      | (go_at_call 11; go_must (with_reducible refine C.mono ?_; (rintro e w9 ⟨r0, r1, rfl, hb9⟩)))
      | (go_at_call 13; go_must (with_reducible refine (NM _ _).mono ?_; (rintro e w10 ⟨rfl, hw10⟩); replace hw10 := hw10.symm; subst hw10)))
    go_ret
    exact ⟨rfl, hb9⟩
  have e0 : (x == 0) = false := by simp [k0]
  by_cases k1 : x = 1
  · subst k1
    have sb1 := set_row (i := 3) HRB.out (.int .i64 (5000 + (m : Int)))
    have sh1 : (wz.setCell ⟨b, 3, none⟩ (.int .i64 (5000 + (m : Int)))).heap[h]? = _ := (Below.heap_setCell _ _ _ _ (by simpa using nhb)).trans HRH.out
    have sc1 : (wz.setCell ⟨b, 3, none⟩ (.int .i64 (5000 + (m : Int)))).heap[c]? = _ := (Below.heap_setCell _ _ _ _ (by simpa using ncb)).trans HRC.out
    have sB1 := HBC.out.setCell (p := ⟨b, 3, none⟩) (by show w.heap.size ≤ b; omega) (.int .i64 (5000 + (m : Int)))
    have w0 : (wz.setCell ⟨b, 3, none⟩ (.int .i64 (5000 + (m : Int)))).cell? ⟨b, 0, none⟩ = some (.slice (some ⟨h, 0, none⟩) 1 1) := cell_row (cs := [.slice (some ⟨h, 0, none⟩) 1 1, .int .i64 0, .slice none 0 0, .int .i64 (5000 + (m : Int)), .int .i64 50]) (i := 0) sb1 rfl
    have w1 : (wz.setCell ⟨b, 3, none⟩ (.int .i64 (5000 + (m : Int)))).cell? ⟨b, 1, none⟩ = some (.int .i64 0) := cell_row (cs := [.slice (some ⟨h, 0, none⟩) 1 1, .int .i64 0, .slice none 0 0, .int .i64 (5000 + (m : Int)), .int .i64 50]) (i := 1) sb1 rfl
    have w2 : (wz.setCell ⟨b, 3, none⟩ (.int .i64 (5000 + (m : Int)))).cell? ⟨b, 2, none⟩ = some (.slice none 0 0) := cell_row (cs := [.slice (some ⟨h, 0, none⟩) 1 1, .int .i64 0, .slice none 0 0, .int .i64 (5000 + (m : Int)), .int .i64 50]) (i := 2) sb1 rfl
    have w3 : (wz.setCell ⟨b, 3, none⟩ (.int .i64 (5000 + (m : Int)))).cell? ⟨b, 3, none⟩ = some (.int .i64 (5000 + (m : Int))) := cell_row (cs := [.slice (some ⟨h, 0, none⟩) 1 1, .int .i64 0, .slice none 0 0, .int .i64 (5000 + (m : Int)), .int .i64 50]) (i := 3) sb1 rfl
    have w4 : (wz.setCell ⟨b, 3, none⟩ (.int .i64 (5000 + (m : Int)))).cell? ⟨b, 4, none⟩ = some (.int .i64 50) := cell_row (cs := [.slice (some ⟨h, 0, none⟩) 1 1, .int .i64 0, .slice none 0 0, .int .i64 (5000 + (m : Int)), .int .i64 50]) (i := 4) sb1 rfl
    have HJ := hide (job1 (h := h) sh1 rfl (reads_row (xs := [.int .i64 1, .int .i64 5, .int .i64 18, .int .i64 0]) sc1) (Nat.le_refl _) rfl (.inl rfl) : JobR (wz.setCell ⟨b, 3, none⟩ (.int .i64 (5000 + (m : Int)))) ⟨some ⟨h, 0, none⟩, 1, 1, 0, none, 0, 0, 5000 + (m : Int), 50⟩ _ [⟨fnm, 0, 0, [(1, 5), (18, 0)]⟩] [])
    have HB := hide sB1
    have C := each_fin (want := 16) hE HB.out HJ.out (by simp) (small1 (n := 2) (s := 1) rfl rfl (by omega) (by omega)) (each_r1 m hm1 hm2)
    simp only [JV.cells] at C
    clear sb1 sh1 sc1 sB1
    go_wp2_with (first
      | (go_at_call 11; go_must (with_reducible refine C.mono ?_; (rintro e w9 ⟨r0, r1, rfl, hb9⟩)))
      | (go_at_call 13; go_must (with_reducible refine (NM _ _).mono ?_; (rintro e w10 ⟨rfl, hw10⟩); replace hw10 := hw10.symm; subst hw10)))
    go_ret
    exact ⟨rfl, hb9⟩
  have e1 : (x == 1) = false := by simp [k1]
  by_cases k2 : x = 2
  · subst k2
    have sb1 := set_row (i := 4) HRB.out (.int .i64 (1 - (m : Int)))
    have sh1 : (wz.setCell ⟨b, 4, none⟩ (.int .i64 (1 - (m : Int)))).heap[h]? = _ := (Below.heap_setCell _ _ _ _ (by simpa using nhb)).trans HRH.out
    have sc1 : (wz.setCell ⟨b, 4, none⟩ (.int .i64 (1 - (m : Int)))).heap[c]? = _ := (Below.heap_setCell _ _ _ _ (by simpa using ncb)).trans HRC.out
    have sB1 := HBC.out.setCell (p := ⟨b, 4, none⟩) (by show w.heap.size ≤ b; omega) (.int .i64 (1 - (m : Int)))
    have w0 : (wz.setCell ⟨b, 4, none⟩ (.int .i64 (1 - (m : Int)))).cell? ⟨b, 0, none⟩ = some (.slice (some ⟨h, 0, none⟩) 1 1) := cell_row (cs := [.slice (some ⟨h, 0, none⟩) 1 1, .int .i64 0, .slice none 0 0, .int .i64 100, .int .i64 (1 - (m : Int))]) (i := 0) sb1 rfl
    have w1 : (wz.setCell ⟨b, 4, none⟩ (.int .i64 (1 - (m : Int)))).cell? ⟨b, 1, none⟩ = some (.int .i64 0) := cell_row (cs := [.slice (some ⟨h, 0, none⟩) 1 1, .int .i64 0, .slice none 0 0, .int .i64 100, .int .i64 (1 - (m : Int))]) (i := 1) sb1 rfl
    have w2 : (wz.setCell ⟨b, 4, none⟩ (.int .i64 (1 - (m : Int)))).cell? ⟨b, 2, none⟩ = some (.slice none 0 0) := cell_row (cs := [.slice (some ⟨h, 0, none⟩) 1 1, .int .i64 0, .slice none 0 0, .int .i64 100, .int .i64 (1 - (m : Int))]) (i := 2) sb1 rfl
    have w3 : (wz.setCell ⟨b, 4, none⟩ (.int .i64 (1 - (m : Int)))).cell? ⟨b, 3, none⟩ = some (.int .i64 100) := cell_row (cs := [.slice (some ⟨h, 0, none⟩) 1 1, .int .i64 0, .slice none 0 0, .int .i64 100, .int .i64 (1 - (m : Int))]) (i := 3) sb1 rfl
    have w4 : (wz.setCell ⟨b, 4, none⟩ (.int .i64 (1 - (m : Int)))).cell? ⟨b, 4, none⟩ = some (.int .i64 (1 - (m : Int))) := cell_row (cs := [.slice (some ⟨h, 0, none⟩) 1 1, .int .i64 0, .slice none 0 0, .int .i64 100, .int .i64 (1 - (m : Int))]) (i := 4) sb1 rfl
    have HJ := hide (job1 (h := h) sh1 rfl (reads_row (xs := [.int .i64 1, .int .i64 5, .int .i64 18, .int .i64 0]) sc1) (Nat.le_refl _) rfl (.inl rfl) : JobR (wz.setCell ⟨b, 4, none⟩ (.int .i64 (1 - (m : Int)))) ⟨some ⟨h, 0, none⟩, 1, 1, 0, none, 0, 0, 100, 1 - (m : Int)⟩ _ [⟨fnm, 0, 0, [(1, 5), (18, 0)]⟩] [])
    have HB := hide sB1
    have C := each_fin (want := 16) hE HB.out HJ.out (by simp) (small1 (n := 2) (s := 1) rfl rfl (by omega) (by omega)) (each_r2 m hm1 hm2)
    simp only [JV.cells] at C
    clear sb1 sh1 sc1 sB1
    go_wp2_with (first
      | (go_at_call 11; go_must (with_reducible refine C.mono ?_; (rintro e w9 ⟨r0, r1, rfl, hb9⟩)))
      | (go_at_call 13; go_must (with_reducible refine (NM _ _).mono ?_; (rintro e w10 ⟨rfl, hw10⟩); replace hw10 := hw10.symm; subst hw10)))
    go_ret
    exact ⟨rfl, hb9⟩
  have e2 : (x == 2) = false := by simp [k2]
  by_cases k3 : x = 3
  · subst k3
    have sb1 := set_row (i := 1) HRB.out (.int .i64 (m : Int))
    have sh1 : (wz.setCell ⟨b, 1, none⟩ (.int .i64 (m : Int))).heap[h]? = _ := (Below.heap_setCell _ _ _ _ (by simpa using nhb)).trans HRH.out
    have sc1 : (wz.setCell ⟨b, 1, none⟩ (.int .i64 (m : Int))).heap[c]? = _ := (Below.heap_setCell _ _ _ _ (by simpa using ncb)).trans HRC.out
    have sB1 := HBC.out.setCell (p := ⟨b, 1, none⟩) (by show w.heap.size ≤ b; omega) (.int .i64 (m : Int))
    have w0 : (wz.setCell ⟨b, 1, none⟩ (.int .i64 (m : Int))).cell? ⟨b, 0, none⟩ = some (.slice (some ⟨h, 0, none⟩) 1 1) := cell_row (cs := [.slice (some ⟨h, 0, none⟩) 1 1, .int .i64 (m : Int), .slice none 0 0, .int .i64 100, .int .i64 50]) (i := 0) sb1 rfl
    have w1 : (wz.setCell ⟨b, 1, none⟩ (.int .i64 (m : Int))).cell? ⟨b, 1, none⟩ = some (.int .i64 (m : Int)) := cell_row (cs := [.slice (some ⟨h, 0, none⟩) 1 1, .int .i64 (m : Int), .slice none 0 0, .int .i64 100, .int .i64 50]) (i := 1) sb1 rfl
    have w2 : (wz.setCell ⟨b, 1, none⟩ (.int .i64 (m : Int))).cell? ⟨b, 2, none⟩ = some (.slice none 0 0) := cell_row (cs := [.slice (some ⟨h, 0, none⟩) 1 1, .int .i64 (m : Int), .slice none 0 0, .int .i64 100, .int .i64 50]) (i := 2) sb1 rfl
    have w3 : (wz.setCell ⟨b, 1, none⟩ (.int .i64 (m : Int))).cell? ⟨b, 3, none⟩ = some (.int .i64 100) := cell_row (cs := [.slice (some ⟨h, 0, none⟩) 1 1, .int .i64 (m : Int), .slice none 0 0, .int .i64 100, .int .i64 50]) (i := 3) sb1 rfl
    have w4 : (wz.setCell ⟨b, 1, none⟩ (.int .i64 (m : Int))).cell? ⟨b, 4, none⟩ = some (.int .i64 50) := cell_row (cs := [.slice (some ⟨h, 0, none⟩) 1 1, .int .i64 (m : Int), .slice none 0 0, .int .i64 100, .int .i64 50]) (i := 4) sb1 rfl
    have HJ := hide (job1 (h := h) sh1 rfl (reads_row (xs := [.int .i64 1, .int .i64 5, .int .i64 18, .int .i64 0]) sc1) (Nat.le_refl _) rfl (.inl rfl) : JobR (wz.setCell ⟨b, 1, none⟩ (.int .i64 (m : Int))) ⟨some ⟨h, 0, none⟩, 1, 1, (m : Int), none, 0, 0, 100, 50⟩ _ [⟨fnm, 0, 0, [(1, 5), (18, 0)]⟩] [])
    have HB := hide sB1
    have C := each_fin (want := 14) hE HB.out HJ.out (by simp) (small1 (n := 2) (s := 1) rfl rfl (by omega) (by omega)) (each_r3 m hm1 hm2)
    simp only [JV.cells] at C
    clear sb1 sh1 sc1 sB1
    go_wp2_with (first
      | (go_at_call 11; go_must (with_reducible refine C.mono ?_; (rintro e w9 ⟨r0, r1, rfl, hb9⟩)))
      | (go_at_call 13; go_must (with_reducible refine (NM _ _).mono ?_; (rintro e w10 ⟨rfl, hw10⟩); replace hw10 := hw10.symm; subst hw10)))
    go_ret
    exact ⟨rfl, hb9⟩
  have e3 : (x == 3) = false := by simp [k3]
  by_cases k4 : x = 4
  · subst k4
    have sb1 := set_row (i := 2) HRB.out (.slice (some ⟨wz.heap.size, 0, none⟩) m m)
    have sh1 : (wz.setCell ⟨b, 2, none⟩ (.slice (some ⟨wz.heap.size, 0, none⟩) m m)).heap[h]? = _ := (Below.heap_setCell _ _ _ _ (by simpa using nhb)).trans HRH.out
    have sc1 : (wz.setCell ⟨b, 2, none⟩ (.slice (some ⟨wz.heap.size, 0, none⟩) m m)).heap[c]? = _ := (Below.heap_setCell _ _ _ _ (by simpa using ncb)).trans HRC.out
    have sB1 := HBC.out.setCell (p := ⟨b, 2, none⟩) (by show w.heap.size ≤ b; omega) (.slice (some ⟨wz.heap.size, 0, none⟩) m m)
    have lb := lt_row HRB.out
    have lh := lt_row HRH.out
    have hsz : (wz.setCell ⟨b, 2, none⟩ (.slice (some ⟨wz.heap.size, 0, none⟩) m m)).heap.size = wz.heap.size := by simp [World.setCell]
    have sb2 := heap_row sb1 (alloc_below (wz.setCell ⟨b, 2, none⟩ (.slice (some ⟨wz.heap.size, 0, none⟩) m m)) (.cells (iV (List.replicate m 0)).toArray 3))
    have sh2 := heap_row sh1 (alloc_below (wz.setCell ⟨b, 2, none⟩ (.slice (some ⟨wz.heap.size, 0, none⟩) m m)) (.cells (iV (List.replicate m 0)).toArray 3))
    have sc2 := heap_row sc1 (alloc_below (wz.setCell ⟨b, 2, none⟩ (.slice (some ⟨wz.heap.size, 0, none⟩) m m)) (.cells (iV (List.replicate m 0)).toArray 3))
    have sN : ((wz.setCell ⟨b, 2, none⟩ (.slice (some ⟨wz.heap.size, 0, none⟩) m m)).alloc (.cells (iV (List.replicate m 0)).toArray 3)).heap[wz.heap.size]? = some (.cells (iV (List.replicate m 0)).toArray 3) := (congrArg (fun i => ((wz.setCell ⟨b, 2, none⟩ (.slice (some ⟨wz.heap.size, 0, none⟩) m m)).alloc (.cells (iV (List.replicate m 0)).toArray 3)).heap[i]?) hsz.symm).trans (heap_alloc_new (wz.setCell ⟨b, 2, none⟩ (.slice (some ⟨wz.heap.size, 0, none⟩) m m)) (.cells (iV (List.replicate m 0)).toArray 3))
    have sB2 := chain sB1 (alloc_below (wz.setCell ⟨b, 2, none⟩ (.slice (some ⟨wz.heap.size, 0, none⟩) m m)) (.cells (iV (List.replicate m 0)).toArray 3))
    have w0 : ((wz.setCell ⟨b, 2, none⟩ (.slice (some ⟨wz.heap.size, 0, none⟩) m m)).alloc (.cells (iV (List.replicate m 0)).toArray 3)).cell? ⟨b, 0, none⟩ = some (.slice (some ⟨h, 0, none⟩) 1 1) := cell_row (cs := [.slice (some ⟨h, 0, none⟩) 1 1, .int .i64 0, .slice (some ⟨wz.heap.size, 0, none⟩) m m, .int .i64 100, .int .i64 50]) (i := 0) sb2 rfl
    have w1 : ((wz.setCell ⟨b, 2, none⟩ (.slice (some ⟨wz.heap.size, 0, none⟩) m m)).alloc (.cells (iV (List.replicate m 0)).toArray 3)).cell? ⟨b, 1, none⟩ = some (.int .i64 0) := cell_row (cs := [.slice (some ⟨h, 0, none⟩) 1 1, .int .i64 0, .slice (some ⟨wz.heap.size, 0, none⟩) m m, .int .i64 100, .int .i64 50]) (i := 1) sb2 rfl
    have w2 : ((wz.setCell ⟨b, 2, none⟩ (.slice (some ⟨wz.heap.size, 0, none⟩) m m)).alloc (.cells (iV (List.replicate m 0)).toArray 3)).cell? ⟨b, 2, none⟩ = some (.slice (some ⟨wz.heap.size, 0, none⟩) m m) := cell_row (cs := [.slice (some ⟨h, 0, none⟩) 1 1, .int .i64 0, .slice (some ⟨wz.heap.size, 0, none⟩) m m, .int .i64 100, .int .i64 50]) (i := 2) sb2 rfl
    have w3 : ((wz.setCell ⟨b, 2, none⟩ (.slice (some ⟨wz.heap.size, 0, none⟩) m m)).alloc (.cells (iV (List.replicate m 0)).toArray 3)).cell? ⟨b, 3, none⟩ = some (.int .i64 100) := cell_row (cs := [.slice (some ⟨h, 0, none⟩) 1 1, .int .i64 0, .slice (some ⟨wz.heap.size, 0, none⟩) m m, .int .i64 100, .int .i64 50]) (i := 3) sb2 rfl
    have w4 : ((wz.setCell ⟨b, 2, none⟩ (.slice (some ⟨wz.heap.size, 0, none⟩) m m)).alloc (.cells (iV (List.replicate m 0)).toArray 3)).cell? ⟨b, 4, none⟩ = some (.int .i64 50) := cell_row (cs := [.slice (some ⟨h, 0, none⟩) 1 1, .int .i64 0, .slice (some ⟨wz.heap.size, 0, none⟩) m m, .int .i64 100, .int .i64 50]) (i := 4) sb2 rfl
    have HJ := hide (job1 (h := h) sh2 rfl (reads_row (xs := [.int .i64 1, .int .i64 5, .int .i64 18, .int .i64 0]) sc2) (Nat.le_refl _) (by simp) (reads_row sN) : JobR ((wz.setCell ⟨b, 2, none⟩ (.slice (some ⟨wz.heap.size, 0, none⟩) m m)).alloc (.cells (iV (List.replicate m 0)).toArray 3)) ⟨some ⟨h, 0, none⟩, 1, 1, 0, some ⟨wz.heap.size, 0, none⟩, m, m, 100, 50⟩ _ [⟨fnm, 0, 0, [(1, 5), (18, 0)]⟩] (List.replicate m 0))
    have HB := hide sB2
    have C := each_fin (want := 15) hE HB.out HJ.out (by simp) (small1 (n := 2) (s := 1) rfl rfl (by omega) (by omega)) ((by simp only [List.length_replicate]; exact each_r4 m hm1 hm2))
    simp only [JV.cells] at C
    clear sb1 sb2 sh1 sh2 sc1 sc2 sB1 sB2 hsz sN
    go_wp2_with (first
      | (go_at_call 11; go_must (with_reducible refine C.mono ?_; (rintro e w9 ⟨r0, r1, rfl, hb9⟩)))
      | (go_at_call 13; go_must (with_reducible refine (NM _ _).mono ?_; (rintro e w10 ⟨rfl, hw10⟩); replace hw10 := hw10.symm; subst hw10)))
    go_ret
    exact ⟨rfl, hb9⟩
  have e4 : (x == 4) = false := by simp [k4]
  by_cases k5 : x = 5
  · subst k5
    have sb1 : (wz.setCell ⟨h, 0, none⟩ (.string ⟨#[70]⟩)).heap[b]? = _ := (Below.heap_setCell _ _ _ _ (by simpa using nbh)).trans HRB.out
    have sh1 := set_row (i := 0) HRH.out (.string ⟨#[70]⟩)
    have sc1 : (wz.setCell ⟨h, 0, none⟩ (.string ⟨#[70]⟩)).heap[c]? = _ := (Below.heap_setCell _ _ _ _ (by simpa using nch)).trans HRC.out
    have sB1 := HBC.out.setCell (p := ⟨h, 0, none⟩) (by show w.heap.size ≤ h; omega) (.string ⟨#[70]⟩)
    have w0 : (wz.setCell ⟨h, 0, none⟩ (.string ⟨#[70]⟩)).cell? ⟨b, 0, none⟩ = some (.slice (some ⟨h, 0, none⟩) 1 1) := cell_row (cs := [.slice (some ⟨h, 0, none⟩) 1 1, .int .i64 0, .slice none 0 0, .int .i64 100, .int .i64 50]) (i := 0) sb1 rfl
    have w1 : (wz.setCell ⟨h, 0, none⟩ (.string ⟨#[70]⟩)).cell? ⟨b, 1, none⟩ = some (.int .i64 0) := cell_row (cs := [.slice (some ⟨h, 0, none⟩) 1 1, .int .i64 0, .slice none 0 0, .int .i64 100, .int .i64 50]) (i := 1) sb1 rfl
    have w2 : (wz.setCell ⟨h, 0, none⟩ (.string ⟨#[70]⟩)).cell? ⟨b, 2, none⟩ = some (.slice none 0 0) := cell_row (cs := [.slice (some ⟨h, 0, none⟩) 1 1, .int .i64 0, .slice none 0 0, .int .i64 100, .int .i64 50]) (i := 2) sb1 rfl
    have w3 : (wz.setCell ⟨h, 0, none⟩ (.string ⟨#[70]⟩)).cell? ⟨b, 3, none⟩ = some (.int .i64 100) := cell_row (cs := [.slice (some ⟨h, 0, none⟩) 1 1, .int .i64 0, .slice none 0 0, .int .i64 100, .int .i64 50]) (i := 3) sb1 rfl
    have w4 : (wz.setCell ⟨h, 0, none⟩ (.string ⟨#[70]⟩)).cell? ⟨b, 4, none⟩ = some (.int .i64 50) := cell_row (cs := [.slice (some ⟨h, 0, none⟩) 1 1, .int .i64 0, .slice none 0 0, .int .i64 100, .int .i64 50]) (i := 4) sb1 rfl
    have HJ := hide (job1 (h := h) sh1 rfl (reads_row (xs := [.int .i64 1, .int .i64 5, .int .i64 18, .int .i64 0]) sc1) (Nat.le_refl _) rfl (.inl rfl) : JobR (wz.setCell ⟨h, 0, none⟩ (.string ⟨#[70]⟩)) ⟨some ⟨h, 0, none⟩, 1, 1, 0, none, 0, 0, 100, 50⟩ _ [⟨⟨#[70]⟩, 0, 0, [(1, 5), (18, 0)]⟩] [])
    have HB := hide sB1
    have C := each_fin (want := 6) hE HB.out HJ.out (by simp) (small1 (n := 2) (s := 1) rfl rfl (by omega) (by omega)) (each_r5 m hm1 hm2)
    simp only [JV.cells] at C
    clear sb1 sh1 sc1 sB1
    go_wp2_with (first
      | (go_at_call 11; go_must (with_reducible refine C.mono ?_; (rintro e w9 ⟨r0, r1, rfl, hb9⟩)))
      | (go_at_call 13; go_must (with_reducible refine (NM _ _).mono ?_; (rintro e w10 ⟨rfl, hw10⟩); replace hw10 := hw10.symm; subst hw10)))
    go_ret
    exact ⟨rfl, hb9⟩
  have e5 : (x == 5) = false := by simp [k5]
  by_cases k6 : x = 6
  · subst k6
    have sb1 : (wz.setCell ⟨h, 1, none⟩ (.int .i64 (8 + (m : Int)))).heap[b]? = _ := (Below.heap_setCell _ _ _ _ (by simpa using nbh)).trans HRB.out
    have sh1 := set_row (i := 1) HRH.out (.int .i64 (8 + (m : Int)))
    have sc1 : (wz.setCell ⟨h, 1, none⟩ (.int .i64 (8 + (m : Int)))).heap[c]? = _ := (Below.heap_setCell _ _ _ _ (by simpa using nch)).trans HRC.out
    have sB1 := HBC.out.setCell (p := ⟨h, 1, none⟩) (by show w.heap.size ≤ h; omega) (.int .i64 (8 + (m : Int)))
    have sb2 := set_row (i := 2) sb1 (.slice (some ⟨wz.heap.size, 0, none⟩) (m + 8) (m + 8))
    have sh2 : ((wz.setCell ⟨h, 1, none⟩ (.int .i64 (8 + (m : Int)))).setCell ⟨b, 2, none⟩ (.slice (some ⟨wz.heap.size, 0, none⟩) (m + 8) (m + 8))).heap[h]? = _ := (Below.heap_setCell _ _ _ _ (by simpa using nhb)).trans sh1
    have sc2 : ((wz.setCell ⟨h, 1, none⟩ (.int .i64 (8 + (m : Int)))).setCell ⟨b, 2, none⟩ (.slice (some ⟨wz.heap.size, 0, none⟩) (m + 8) (m + 8))).heap[c]? = _ := (Below.heap_setCell _ _ _ _ (by simpa using ncb)).trans sc1
    have sB2 := sB1.setCell (p := ⟨b, 2, none⟩) (by show w.heap.size ≤ b; omega) (.slice (some ⟨wz.heap.size, 0, none⟩) (m + 8) (m + 8))
    have lb := lt_row HRB.out
    have lh := lt_row HRH.out
    have hsz : ((wz.setCell ⟨h, 1, none⟩ (.int .i64 (8 + (m : Int)))).setCell ⟨b, 2, none⟩ (.slice (some ⟨wz.heap.size, 0, none⟩) (m + 8) (m + 8))).heap.size = wz.heap.size := by simp [World.setCell]
    have sb3 := heap_row sb2 (alloc_below ((wz.setCell ⟨h, 1, none⟩ (.int .i64 (8 + (m : Int)))).setCell ⟨b, 2, none⟩ (.slice (some ⟨wz.heap.size, 0, none⟩) (m + 8) (m + 8))) (.cells (iV (List.replicate (m + 8) 0)).toArray 3))
    have sh3 := heap_row sh2 (alloc_below ((wz.setCell ⟨h, 1, none⟩ (.int .i64 (8 + (m : Int)))).setCell ⟨b, 2, none⟩ (.slice (some ⟨wz.heap.size, 0, none⟩) (m + 8) (m + 8))) (.cells (iV (List.replicate (m + 8) 0)).toArray 3))
    have sc3 := heap_row sc2 (alloc_below ((wz.setCell ⟨h, 1, none⟩ (.int .i64 (8 + (m : Int)))).setCell ⟨b, 2, none⟩ (.slice (some ⟨wz.heap.size, 0, none⟩) (m + 8) (m + 8))) (.cells (iV (List.replicate (m + 8) 0)).toArray 3))
    have sN : (((wz.setCell ⟨h, 1, none⟩ (.int .i64 (8 + (m : Int)))).setCell ⟨b, 2, none⟩ (.slice (some ⟨wz.heap.size, 0, none⟩) (m + 8) (m + 8))).alloc (.cells (iV (List.replicate (m + 8) 0)).toArray 3)).heap[wz.heap.size]? = some (.cells (iV (List.replicate (m + 8) 0)).toArray 3) := (congrArg (fun i => (((wz.setCell ⟨h, 1, none⟩ (.int .i64 (8 + (m : Int)))).setCell ⟨b, 2, none⟩ (.slice (some ⟨wz.heap.size, 0, none⟩) (m + 8) (m + 8))).alloc (.cells (iV (List.replicate (m + 8) 0)).toArray 3)).heap[i]?) hsz.symm).trans (heap_alloc_new ((wz.setCell ⟨h, 1, none⟩ (.int .i64 (8 + (m : Int)))).setCell ⟨b, 2, none⟩ (.slice (some ⟨wz.heap.size, 0, none⟩) (m + 8) (m + 8))) (.cells (iV (List.replicate (m + 8) 0)).toArray 3))
    have sB3 := chain sB2 (alloc_below ((wz.setCell ⟨h, 1, none⟩ (.int .i64 (8 + (m : Int)))).setCell ⟨b, 2, none⟩ (.slice (some ⟨wz.heap.size, 0, none⟩) (m + 8) (m + 8))) (.cells (iV (List.replicate (m + 8) 0)).toArray 3))
    have w0 : (((wz.setCell ⟨h, 1, none⟩ (.int .i64 (8 + (m : Int)))).setCell ⟨b, 2, none⟩ (.slice (some ⟨wz.heap.size, 0, none⟩) (m + 8) (m + 8))).alloc (.cells (iV (List.replicate (m + 8) 0)).toArray 3)).cell? ⟨b, 0, none⟩ = some (.slice (some ⟨h, 0, none⟩) 1 1) := cell_row (cs := [.slice (some ⟨h, 0, none⟩) 1 1, .int .i64 0, .slice (some ⟨wz.heap.size, 0, none⟩) (m + 8) (m + 8), .int .i64 100, .int .i64 50]) (i := 0) sb3 rfl
    have w1 : (((wz.setCell ⟨h, 1, none⟩ (.int .i64 (8 + (m : Int)))).setCell ⟨b, 2, none⟩ (.slice (some ⟨wz.heap.size, 0, none⟩) (m + 8) (m + 8))).alloc (.cells (iV (List.replicate (m + 8) 0)).toArray 3)).cell? ⟨b, 1, none⟩ = some (.int .i64 0) := cell_row (cs := [.slice (some ⟨h, 0, none⟩) 1 1, .int .i64 0, .slice (some ⟨wz.heap.size, 0, none⟩) (m + 8) (m + 8), .int .i64 100, .int .i64 50]) (i := 1) sb3 rfl
    have w2 : (((wz.setCell ⟨h, 1, none⟩ (.int .i64 (8 + (m : Int)))).setCell ⟨b, 2, none⟩ (.slice (some ⟨wz.heap.size, 0, none⟩) (m + 8) (m + 8))).alloc (.cells (iV (List.replicate (m + 8) 0)).toArray 3)).cell? ⟨b, 2, none⟩ = some (.slice (some ⟨wz.heap.size, 0, none⟩) (m + 8) (m + 8)) := cell_row (cs := [.slice (some ⟨h, 0, none⟩) 1 1, .int .i64 0, .slice (some ⟨wz.heap.size, 0, none⟩) (m + 8) (m + 8), .int .i64 100, .int .i64 50]) (i := 2) sb3 rfl
    have w3 : (((wz.setCell ⟨h, 1, none⟩ (.int .i64 (8 + (m : Int)))).setCell ⟨b, 2, none⟩ (.slice (some ⟨wz.heap.size, 0, none⟩) (m + 8) (m + 8))).alloc (.cells (iV (List.replicate (m + 8) 0)).toArray 3)).cell? ⟨b, 3, none⟩ = some (.int .i64 100) := cell_row (cs := [.slice (some ⟨h, 0, none⟩) 1 1, .int .i64 0, .slice (some ⟨wz.heap.size, 0, none⟩) (m + 8) (m + 8), .int .i64 100, .int .i64 50]) (i := 3) sb3 rfl
    have w4 : (((wz.setCell ⟨h, 1, none⟩ (.int .i64 (8 + (m : Int)))).setCell ⟨b, 2, none⟩ (.slice (some ⟨wz.heap.size, 0, none⟩) (m + 8) (m + 8))).alloc (.cells (iV (List.replicate (m + 8) 0)).toArray 3)).cell? ⟨b, 4, none⟩ = some (.int .i64 50) := cell_row (cs := [.slice (some ⟨h, 0, none⟩) 1 1, .int .i64 0, .slice (some ⟨wz.heap.size, 0, none⟩) (m + 8) (m + 8), .int .i64 100, .int .i64 50]) (i := 4) sb3 rfl
    have HJ := hide (job1 (h := h) sh3 rfl (reads_row (xs := [.int .i64 1, .int .i64 5, .int .i64 18, .int .i64 0]) sc3) (Nat.le_refl _) (by simp) (reads_row sN) : JobR (((wz.setCell ⟨h, 1, none⟩ (.int .i64 (8 + (m : Int)))).setCell ⟨b, 2, none⟩ (.slice (some ⟨wz.heap.size, 0, none⟩) (m + 8) (m + 8))).alloc (.cells (iV (List.replicate (m + 8) 0)).toArray 3)) ⟨some ⟨h, 0, none⟩, 1, 1, 0, some ⟨wz.heap.size, 0, none⟩, m + 8, m + 8, 100, 50⟩ _ [⟨fnm, 8 + (m : Int), 0, [(1, 5), (18, 0)]⟩] (List.replicate (m + 8) 0))
    have HB := hide sB3
    have C := each_fin (want := 15) hE HB.out HJ.out (by simp) (small1 (n := 2) (s := 1) rfl rfl (by omega) (by omega)) ((by simp only [List.length_replicate]; exact each_r6 m hm1 hm2))
    simp only [JV.cells] at C
    clear sb1 sb2 sb3 sh1 sh2 sh3 sc1 sc2 sc3 sB1 sB2 sB3 hsz sN
    go_wp2_with (first
      | (go_at_call 11; go_must (with_reducible refine C.mono ?_; (rintro e w9 ⟨r0, r1, rfl, hb9⟩)))
      | (go_at_call 13; go_must (with_reducible refine (NM _ _).mono ?_; (rintro e w10 ⟨rfl, hw10⟩); replace hw10 := hw10.symm; subst hw10)))
    go_ret
    exact ⟨rfl, hb9⟩
  have e6 : (x == 6) = false := by simp [k6]
  by_cases k7 : x = 7
  · subst k7
    have sb1 : (wz.setCell ⟨h, 2, none⟩ (.int .i64 (16 + (m : Int)))).heap[b]? = _ := (Below.heap_setCell _ _ _ _ (by simpa using nbh)).trans HRB.out
    have sh1 := set_row (i := 2) HRH.out (.int .i64 (16 + (m : Int)))
    have sc1 : (wz.setCell ⟨h, 2, none⟩ (.int .i64 (16 + (m : Int)))).heap[c]? = _ := (Below.heap_setCell _ _ _ _ (by simpa using nch)).trans HRC.out
    have sB1 := HBC.out.setCell (p := ⟨h, 2, none⟩) (by show w.heap.size ≤ h; omega) (.int .i64 (16 + (m : Int)))
    have w0 : (wz.setCell ⟨h, 2, none⟩ (.int .i64 (16 + (m : Int)))).cell? ⟨b, 0, none⟩ = some (.slice (some ⟨h, 0, none⟩) 1 1) := cell_row (cs := [.slice (some ⟨h, 0, none⟩) 1 1, .int .i64 0, .slice none 0 0, .int .i64 100, .int .i64 50]) (i := 0) sb1 rfl
    have w1 : (wz.setCell ⟨h, 2, none⟩ (.int .i64 (16 + (m : Int)))).cell? ⟨b, 1, none⟩ = some (.int .i64 0) := cell_row (cs := [.slice (some ⟨h, 0, none⟩) 1 1, .int .i64 0, .slice none 0 0, .int .i64 100, .int .i64 50]) (i := 1) sb1 rfl
    have w2 : (wz.setCell ⟨h, 2, none⟩ (.int .i64 (16 + (m : Int)))).cell? ⟨b, 2, none⟩ = some (.slice none 0 0) := cell_row (cs := [.slice (some ⟨h, 0, none⟩) 1 1, .int .i64 0, .slice none 0 0, .int .i64 100, .int .i64 50]) (i := 2) sb1 rfl
    have w3 : (wz.setCell ⟨h, 2, none⟩ (.int .i64 (16 + (m : Int)))).cell? ⟨b, 3, none⟩ = some (.int .i64 100) := cell_row (cs := [.slice (some ⟨h, 0, none⟩) 1 1, .int .i64 0, .slice none 0 0, .int .i64 100, .int .i64 50]) (i := 3) sb1 rfl
    have w4 : (wz.setCell ⟨h, 2, none⟩ (.int .i64 (16 + (m : Int)))).cell? ⟨b, 4, none⟩ = some (.int .i64 50) := cell_row (cs := [.slice (some ⟨h, 0, none⟩) 1 1, .int .i64 0, .slice none 0 0, .int .i64 100, .int .i64 50]) (i := 4) sb1 rfl
    have HJ := hide (job1 (h := h) sh1 rfl (reads_row (xs := [.int .i64 1, .int .i64 5, .int .i64 18, .int .i64 0]) sc1) (Nat.le_refl _) rfl (.inl rfl) : JobR (wz.setCell ⟨h, 2, none⟩ (.int .i64 (16 + (m : Int)))) ⟨some ⟨h, 0, none⟩, 1, 1, 0, none, 0, 0, 100, 50⟩ _ [⟨fnm, 0, 16 + (m : Int), [(1, 5), (18, 0)]⟩] [])
    have HB := hide sB1
    have C := each_fin (want := 13) hE HB.out HJ.out (by simp) (small1 (n := 2) (s := 1) rfl rfl (by omega) (by omega)) (each_r7 m hm1 hm2)
    simp only [JV.cells] at C
    clear sb1 sh1 sc1 sB1
    go_wp2_with (first
      | (go_at_call 11; go_must (with_reducible refine C.mono ?_; (rintro e w9 ⟨r0, r1, rfl, hb9⟩)))
      | (go_at_call 13; go_must (with_reducible refine (NM _ _).mono ?_; (rintro e w10 ⟨rfl, hw10⟩); replace hw10 := hw10.symm; subst hw10)))
    go_ret
    exact ⟨rfl, hb9⟩
  have e7 : (x == 7) = false := by simp [k7]
  by_cases k8 : x = 8
  · subst k8
    have sb1 : (wz.setCell ⟨h, 3, none⟩ (.slice none 0 0)).heap[b]? = _ := (Below.heap_setCell _ _ _ _ (by simpa using nbh)).trans HRB.out
    have sh1 := set_row (i := 3) HRH.out (.slice none 0 0)
    have sc1 : (wz.setCell ⟨h, 3, none⟩ (.slice none 0 0)).heap[c]? = _ := (Below.heap_setCell _ _ _ _ (by simpa using nch)).trans HRC.out
    have sB1 := HBC.out.setCell (p := ⟨h, 3, none⟩) (by show w.heap.size ≤ h; omega) (.slice none 0 0)
    have w0 : (wz.setCell ⟨h, 3, none⟩ (.slice none 0 0)).cell? ⟨b, 0, none⟩ = some (.slice (some ⟨h, 0, none⟩) 1 1) := cell_row (cs := [.slice (some ⟨h, 0, none⟩) 1 1, .int .i64 0, .slice none 0 0, .int .i64 100, .int .i64 50]) (i := 0) sb1 rfl
    have w1 : (wz.setCell ⟨h, 3, none⟩ (.slice none 0 0)).cell? ⟨b, 1, none⟩ = some (.int .i64 0) := cell_row (cs := [.slice (some ⟨h, 0, none⟩) 1 1, .int .i64 0, .slice none 0 0, .int .i64 100, .int .i64 50]) (i := 1) sb1 rfl
    have w2 : (wz.setCell ⟨h, 3, none⟩ (.slice none 0 0)).cell? ⟨b, 2, none⟩ = some (.slice none 0 0) := cell_row (cs := [.slice (some ⟨h, 0, none⟩) 1 1, .int .i64 0, .slice none 0 0, .int .i64 100, .int .i64 50]) (i := 2) sb1 rfl
    have w3 : (wz.setCell ⟨h, 3, none⟩ (.slice none 0 0)).cell? ⟨b, 3, none⟩ = some (.int .i64 100) := cell_row (cs := [.slice (some ⟨h, 0, none⟩) 1 1, .int .i64 0, .slice none 0 0, .int .i64 100, .int .i64 50]) (i := 3) sb1 rfl
    have w4 : (wz.setCell ⟨h, 3, none⟩ (.slice none 0 0)).cell? ⟨b, 4, none⟩ = some (.int .i64 50) := cell_row (cs := [.slice (some ⟨h, 0, none⟩) 1 1, .int .i64 0, .slice none 0 0, .int .i64 100, .int .i64 50]) (i := 4) sb1 rfl
    have HJ := hide (job1 (h := h) sh1 rfl (.inl rfl) (Nat.le_refl _) rfl (.inl rfl) : JobR (wz.setCell ⟨h, 3, none⟩ (.slice none 0 0)) ⟨some ⟨h, 0, none⟩, 1, 1, 0, none, 0, 0, 100, 50⟩ _ [⟨fnm, 0, 0, []⟩] [])
    have HB := hide sB1
    have C := each_fin (want := 3) hE HB.out HJ.out (by simp) (small1 (n := 0) (s := 1) rfl rfl (by omega) (by omega)) (each_r8 m hm1 hm2)
    simp only [JV.cells] at C
    clear sb1 sh1 sc1 sB1
    go_wp2_with (first
      | (go_at_call 11; go_must (with_reducible refine C.mono ?_; (rintro e w9 ⟨r0, r1, rfl, hb9⟩)))
      | (go_at_call 13; go_must (with_reducible refine (NM _ _).mono ?_; (rintro e w10 ⟨rfl, hw10⟩); replace hw10 := hw10.symm; subst hw10)))
    go_ret
    exact ⟨rfl, hb9⟩
  have e8 : (x == 8) = false := by simp [k8]
  by_cases k9 : x = 9
  · subst k9
    have sb1 : (wz.setCell ⟨c, 0, none⟩ (.int .i64 (19 + (m : Int)))).heap[b]? = _ := (Below.heap_setCell _ _ _ _ (by simpa using nbc)).trans HRB.out
    have sh1 : (wz.setCell ⟨c, 0, none⟩ (.int .i64 (19 + (m : Int)))).heap[h]? = _ := (Below.heap_setCell _ _ _ _ (by simpa using nhc)).trans HRH.out
    have sc1 := set_row (i := 0) HRC.out (.int .i64 (19 + (m : Int)))
    have sB1 := HBC.out.setCell (p := ⟨c, 0, none⟩) (by show w.heap.size ≤ c; omega) (.int .i64 (19 + (m : Int)))
    have w0 : (wz.setCell ⟨c, 0, none⟩ (.int .i64 (19 + (m : Int)))).cell? ⟨b, 0, none⟩ = some (.slice (some ⟨h, 0, none⟩) 1 1) := cell_row (cs := [.slice (some ⟨h, 0, none⟩) 1 1, .int .i64 0, .slice none 0 0, .int .i64 100, .int .i64 50]) (i := 0) sb1 rfl
    have w1 : (wz.setCell ⟨c, 0, none⟩ (.int .i64 (19 + (m : Int)))).cell? ⟨b, 1, none⟩ = some (.int .i64 0) := cell_row (cs := [.slice (some ⟨h, 0, none⟩) 1 1, .int .i64 0, .slice none 0 0, .int .i64 100, .int .i64 50]) (i := 1) sb1 rfl
    have w2 : (wz.setCell ⟨c, 0, none⟩ (.int .i64 (19 + (m : Int)))).cell? ⟨b, 2, none⟩ = some (.slice none 0 0) := cell_row (cs := [.slice (some ⟨h, 0, none⟩) 1 1, .int .i64 0, .slice none 0 0, .int .i64 100, .int .i64 50]) (i := 2) sb1 rfl
    have w3 : (wz.setCell ⟨c, 0, none⟩ (.int .i64 (19 + (m : Int)))).cell? ⟨b, 3, none⟩ = some (.int .i64 100) := cell_row (cs := [.slice (some ⟨h, 0, none⟩) 1 1, .int .i64 0, .slice none 0 0, .int .i64 100, .int .i64 50]) (i := 3) sb1 rfl
    have w4 : (wz.setCell ⟨c, 0, none⟩ (.int .i64 (19 + (m : Int)))).cell? ⟨b, 4, none⟩ = some (.int .i64 50) := cell_row (cs := [.slice (some ⟨h, 0, none⟩) 1 1, .int .i64 0, .slice none 0 0, .int .i64 100, .int .i64 50]) (i := 4) sb1 rfl
    have HJ := hide (job1 (h := h) sh1 rfl (reads_row (xs := [.int .i64 (19 + (m : Int)), .int .i64 5, .int .i64 18, .int .i64 0]) sc1) (Nat.le_refl _) rfl (.inl rfl) : JobR (wz.setCell ⟨c, 0, none⟩ (.int .i64 (19 + (m : Int)))) ⟨some ⟨h, 0, none⟩, 1, 1, 0, none, 0, 0, 100, 50⟩ _ [⟨fnm, 0, 0, [(19 + (m : Int), 5), (18, 0)]⟩] [])
    have HB := hide sB1
    have C := each_fin (want := 10) hE HB.out HJ.out (by simp) (small1 (n := 2) (s := 1) rfl rfl (by omega) (by omega)) (each_r9 m hm1 hm2)
    simp only [JV.cells] at C
    clear sb1 sh1 sc1 sB1
    go_wp2_with (first
      | (go_at_call 11; go_must (with_reducible refine C.mono ?_; (rintro e w9 ⟨r0, r1, rfl, hb9⟩)))
      | (go_at_call 13; go_must (with_reducible refine (NM _ _).mono ?_; (rintro e w10 ⟨rfl, hw10⟩); replace hw10 := hw10.symm; subst hw10)))
    go_ret
    exact ⟨rfl, hb9⟩
  have e9 : (x == 9) = false := by simp [k9]
  by_cases k10 : x = 10
  · subst k10
    have sb1 : (wz.setCell ⟨c, 3, none⟩ (.int .i64 (m : Int))).heap[b]? = _ := (Below.heap_setCell _ _ _ _ (by simpa using nbc)).trans HRB.out
    have sh1 : (wz.setCell ⟨c, 3, none⟩ (.int .i64 (m : Int))).heap[h]? = _ := (Below.heap_setCell _ _ _ _ (by simpa using nhc)).trans HRH.out
    have sc1 := set_row (i := 3) HRC.out (.int .i64 (m : Int))
    have sB1 := HBC.out.setCell (p := ⟨c, 3, none⟩) (by show w.heap.size ≤ c; omega) (.int .i64 (m : Int))
    have w0 : (wz.setCell ⟨c, 3, none⟩ (.int .i64 (m : Int))).cell? ⟨b, 0, none⟩ = some (.slice (some ⟨h, 0, none⟩) 1 1) := cell_row (cs := [.slice (some ⟨h, 0, none⟩) 1 1, .int .i64 0, .slice none 0 0, .int .i64 100, .int .i64 50]) (i := 0) sb1 rfl
    have w1 : (wz.setCell ⟨c, 3, none⟩ (.int .i64 (m : Int))).cell? ⟨b, 1, none⟩ = some (.int .i64 0) := cell_row (cs := [.slice (some ⟨h, 0, none⟩) 1 1, .int .i64 0, .slice none 0 0, .int .i64 100, .int .i64 50]) (i := 1) sb1 rfl
    have w2 : (wz.setCell ⟨c, 3, none⟩ (.int .i64 (m : Int))).cell? ⟨b, 2, none⟩ = some (.slice none 0 0) := cell_row (cs := [.slice (some ⟨h, 0, none⟩) 1 1, .int .i64 0, .slice none 0 0, .int .i64 100, .int .i64 50]) (i := 2) sb1 rfl
    have w3 : (wz.setCell ⟨c, 3, none⟩ (.int .i64 (m : Int))).cell? ⟨b, 3, none⟩ = some (.int .i64 100) := cell_row (cs := [.slice (some ⟨h, 0, none⟩) 1 1, .int .i64 0, .slice none 0 0, .int .i64 100, .int .i64 50]) (i := 3) sb1 rfl
    have w4 : (wz.setCell ⟨c, 3, none⟩ (.int .i64 (m : Int))).cell? ⟨b, 4, none⟩ = some (.int .i64 50) := cell_row (cs := [.slice (some ⟨h, 0, none⟩) 1 1, .int .i64 0, .slice none 0 0, .int .i64 100, .int .i64 50]) (i := 4) sb1 rfl
    have HJ := hide (job1 (h := h) sh1 rfl (reads_row (xs := [.int .i64 1, .int .i64 5, .int .i64 18, .int .i64 (m : Int)]) sc1) (Nat.le_refl _) rfl (.inl rfl) : JobR (wz.setCell ⟨c, 3, none⟩ (.int .i64 (m : Int))) ⟨some ⟨h, 0, none⟩, 1, 1, 0, none, 0, 0, 100, 50⟩ _ [⟨fnm, 0, 0, [(1, 5), (18, (m : Int))]⟩] [])
    have HB := hide sB1
    have C := each_fin (want := 10) hE HB.out HJ.out (by simp) (small1 (n := 2) (s := 1) rfl rfl (by omega) (by omega)) (each_r10 m hm1 hm2)
    simp only [JV.cells] at C
    clear sb1 sh1 sc1 sB1
    go_wp2_with (first
      | (go_at_call 11; go_must (with_reducible refine C.mono ?_; (rintro e w9 ⟨r0, r1, rfl, hb9⟩)))
      | (go_at_call 13; go_must (with_reducible refine (NM _ _).mono ?_; (rintro e w10 ⟨rfl, hw10⟩); replace hw10 := hw10.symm; subst hw10)))
    go_ret
    exact ⟨rfl, hb9⟩
  have e10 : (x == 10) = false := by simp [k10]
  by_cases k11 : x = 11
  · subst k11
    have sb1 : (wz.setCell ⟨c, 0, none⟩ (.int .i64 5)).heap[b]? = _ := (Below.heap_setCell _ _ _ _ (by simpa using nbc)).trans HRB.out
    have sh1 : (wz.setCell ⟨c, 0, none⟩ (.int .i64 5)).heap[h]? = _ := (Below.heap_setCell _ _ _ _ (by simpa using nhc)).trans HRH.out
    have sc1 := set_row (i := 0) HRC.out (.int .i64 5)
    have sB1 := HBC.out.setCell (p := ⟨c, 0, none⟩) (by show w.heap.size ≤ c; omega) (.int .i64 5)
    have sb2 : ((wz.setCell ⟨c, 0, none⟩ (.int .i64 5)).setCell ⟨c, 1, none⟩ (.int .i64 (m : Int))).heap[b]? = _ := (Below.heap_setCell _ _ _ _ (by simpa using nbc)).trans sb1
    have sh2 : ((wz.setCell ⟨c, 0, none⟩ (.int .i64 5)).setCell ⟨c, 1, none⟩ (.int .i64 (m : Int))).heap[h]? = _ := (Below.heap_setCell _ _ _ _ (by simpa using nhc)).trans sh1
    have sc2 := set_row (i := 1) sc1 (.int .i64 (m : Int))
    have sB2 := sB1.setCell (p := ⟨c, 1, none⟩) (by show w.heap.size ≤ c; omega) (.int .i64 (m : Int))
    have w0 : ((wz.setCell ⟨c, 0, none⟩ (.int .i64 5)).setCell ⟨c, 1, none⟩ (.int .i64 (m : Int))).cell? ⟨b, 0, none⟩ = some (.slice (some ⟨h, 0, none⟩) 1 1) := cell_row (cs := [.slice (some ⟨h, 0, none⟩) 1 1, .int .i64 0, .slice none 0 0, .int .i64 100, .int .i64 50]) (i := 0) sb2 rfl
    have w1 : ((wz.setCell ⟨c, 0, none⟩ (.int .i64 5)).setCell ⟨c, 1, none⟩ (.int .i64 (m : Int))).cell? ⟨b, 1, none⟩ = some (.int .i64 0) := cell_row (cs := [.slice (some ⟨h, 0, none⟩) 1 1, .int .i64 0, .slice none 0 0, .int .i64 100, .int .i64 50]) (i := 1) sb2 rfl
    have w2 : ((wz.setCell ⟨c, 0, none⟩ (.int .i64 5)).setCell ⟨c, 1, none⟩ (.int .i64 (m : Int))).cell? ⟨b, 2, none⟩ = some (.slice none 0 0) := cell_row (cs := [.slice (some ⟨h, 0, none⟩) 1 1, .int .i64 0, .slice none 0 0, .int .i64 100, .int .i64 50]) (i := 2) sb2 rfl
    have w3 : ((wz.setCell ⟨c, 0, none⟩ (.int .i64 5)).setCell ⟨c, 1, none⟩ (.int .i64 (m : Int))).cell? ⟨b, 3, none⟩ = some (.int .i64 100) := cell_row (cs := [.slice (some ⟨h, 0, none⟩) 1 1, .int .i64 0, .slice none 0 0, .int .i64 100, .int .i64 50]) (i := 3) sb2 rfl
    have w4 : ((wz.setCell ⟨c, 0, none⟩ (.int .i64 5)).setCell ⟨c, 1, none⟩ (.int .i64 (m : Int))).cell? ⟨b, 4, none⟩ = some (.int .i64 50) := cell_row (cs := [.slice (some ⟨h, 0, none⟩) 1 1, .int .i64 0, .slice none 0 0, .int .i64 100, .int .i64 50]) (i := 4) sb2 rfl
    have HJ := hide (job1 (h := h) sh2 rfl (reads_row (xs := [.int .i64 5, .int .i64 (m : Int), .int .i64 18, .int .i64 0]) sc2) (Nat.le_refl _) rfl (.inl rfl) : JobR ((wz.setCell ⟨c, 0, none⟩ (.int .i64 5)).setCell ⟨c, 1, none⟩ (.int .i64 (m : Int))) ⟨some ⟨h, 0, none⟩, 1, 1, 0, none, 0, 0, 100, 50⟩ _ [⟨fnm, 0, 0, [(5, (m : Int)), (18, 0)]⟩] [])
    have HB := hide sB2
    have C := each_fin (want := 13) hE HB.out HJ.out (by simp) (small1 (n := 2) (s := 1) rfl rfl (by omega) (by omega)) (each_r11 m hm1 hm2)
    simp only [JV.cells] at C
    clear sb1 sb2 sh1 sh2 sc1 sc2 sB1 sB2
    go_wp2_with (first
      | (go_at_call 11; go_must (with_reducible refine C.mono ?_; (rintro e w9 ⟨r0, r1, rfl, hb9⟩)))
      | (go_at_call 13; go_must (with_reducible refine (NM _ _).mono ?_; (rintro e w10 ⟨rfl, hw10⟩); replace hw10 := hw10.symm; subst hw10)))
    go_ret
    exact ⟨rfl, hb9⟩
  have e11 : (x == 11) = false := by simp [k11]
  by_cases k12 : x = 12
  · subst k12
    have sb1 : (wz.setCell ⟨c, 0, none⟩ (.int .i64 14)).heap[b]? = _ := (Below.heap_setCell _ _ _ _ (by simpa using nbc)).trans HRB.out
    have sh1 : (wz.setCell ⟨c, 0, none⟩ (.int .i64 14)).heap[h]? = _ := (Below.heap_setCell _ _ _ _ (by simpa using nhc)).trans HRH.out
    have sc1 := set_row (i := 0) HRC.out (.int .i64 14)
    have sB1 := HBC.out.setCell (p := ⟨c, 0, none⟩) (by show w.heap.size ≤ c; omega) (.int .i64 14)
    have sb2 : ((wz.setCell ⟨c, 0, none⟩ (.int .i64 14)).setCell ⟨c, 1, none⟩ (.int .i64 (1 + (m : Int)))).heap[b]? = _ := (Below.heap_setCell _ _ _ _ (by simpa using nbc)).trans sb1
    have sh2 : ((wz.setCell ⟨c, 0, none⟩ (.int .i64 14)).setCell ⟨c, 1, none⟩ (.int .i64 (1 + (m : Int)))).heap[h]? = _ := (Below.heap_setCell _ _ _ _ (by simpa using nhc)).trans sh1
    have sc2 := set_row (i := 1) sc1 (.int .i64 (1 + (m : Int)))
    have sB2 := sB1.setCell (p := ⟨c, 1, none⟩) (by show w.heap.size ≤ c; omega) (.int .i64 (1 + (m : Int)))
    have w0 : ((wz.setCell ⟨c, 0, none⟩ (.int .i64 14)).setCell ⟨c, 1, none⟩ (.int .i64 (1 + (m : Int)))).cell? ⟨b, 0, none⟩ = some (.slice (some ⟨h, 0, none⟩) 1 1) := cell_row (cs := [.slice (some ⟨h, 0, none⟩) 1 1, .int .i64 0, .slice none 0 0, .int .i64 100, .int .i64 50]) (i := 0) sb2 rfl
    have w1 : ((wz.setCell ⟨c, 0, none⟩ (.int .i64 14)).setCell ⟨c, 1, none⟩ (.int .i64 (1 + (m : Int)))).cell? ⟨b, 1, none⟩ = some (.int .i64 0) := cell_row (cs := [.slice (some ⟨h, 0, none⟩) 1 1, .int .i64 0, .slice none 0 0, .int .i64 100, .int .i64 50]) (i := 1) sb2 rfl
    have w2 : ((wz.setCell ⟨c, 0, none⟩ (.int .i64 14)).setCell ⟨c, 1, none⟩ (.int .i64 (1 + (m : Int)))).cell? ⟨b, 2, none⟩ = some (.slice none 0 0) := cell_row (cs := [.slice (some ⟨h, 0, none⟩) 1 1, .int .i64 0, .slice none 0 0, .int .i64 100, .int .i64 50]) (i := 2) sb2 rfl
    have w3 : ((wz.setCell ⟨c, 0, none⟩ (.int .i64 14)).setCell ⟨c, 1, none⟩ (.int .i64 (1 + (m : Int)))).cell? ⟨b, 3, none⟩ = some (.int .i64 100) := cell_row (cs := [.slice (some ⟨h, 0, none⟩) 1 1, .int .i64 0, .slice none 0 0, .int .i64 100, .int .i64 50]) (i := 3) sb2 rfl
    have w4 : ((wz.setCell ⟨c, 0, none⟩ (.int .i64 14)).setCell ⟨c, 1, none⟩ (.int .i64 (1 + (m : Int)))).cell? ⟨b, 4, none⟩ = some (.int .i64 50) := cell_row (cs := [.slice (some ⟨h, 0, none⟩) 1 1, .int .i64 0, .slice none 0 0, .int .i64 100, .int .i64 50]) (i := 4) sb2 rfl
    have HJ := hide (job1 (h := h) sh2 rfl (reads_row (xs := [.int .i64 14, .int .i64 (1 + (m : Int)), .int .i64 18, .int .i64 0]) sc2) (Nat.le_refl _) rfl (.inl rfl) : JobR ((wz.setCell ⟨c, 0, none⟩ (.int .i64 14)).setCell ⟨c, 1, none⟩ (.int .i64 (1 + (m : Int)))) ⟨some ⟨h, 0, none⟩, 1, 1, 0, none, 0, 0, 100, 50⟩ _ [⟨fnm, 0, 0, [(14, 1 + (m : Int)), (18, 0)]⟩] [])
    have HB := hide sB2
    have C := each_fin (want := 11) hE HB.out HJ.out (by simp) (small1 (n := 2) (s := 1) rfl rfl (by omega) (by omega)) (each_r12 m hm1 hm2)
    simp only [JV.cells] at C
    clear sb1 sb2 sh1 sh2 sc1 sc2 sB1 sB2
    go_wp2_with (first
      | (go_at_call 11; go_must (with_reducible refine C.mono ?_; (rintro e w9 ⟨r0, r1, rfl, hb9⟩)))
      | (go_at_call 13; go_must (with_reducible refine (NM _ _).mono ?_; (rintro e w10 ⟨rfl, hw10⟩); replace hw10 := hw10.symm; subst hw10)))
    go_ret
    exact ⟨rfl, hb9⟩
  have e12 : (x == 12) = false := by simp [k12]
  by_cases k13 : x = 13
  · subst k13
    have sb1 : (wz.setCell ⟨c, 0, none⟩ (.int .i64 16)).heap[b]? = _ := (Below.heap_setCell _ _ _ _ (by simpa using nbc)).trans HRB.out
    have sh1 : (wz.setCell ⟨c, 0, none⟩ (.int .i64 16)).heap[h]? = _ := (Below.heap_setCell _ _ _ _ (by simpa using nhc)).trans HRH.out
    have sc1 := set_row (i := 0) HRC.out (.int .i64 16)
    have sB1 := HBC.out.setCell (p := ⟨c, 0, none⟩) (by show w.heap.size ≤ c; omega) (.int .i64 16)
    have sb2 : ((wz.setCell ⟨c, 0, none⟩ (.int .i64 16)).setCell ⟨c, 1, none⟩ (.int .i64 (m : Int))).heap[b]? = _ := (Below.heap_setCell _ _ _ _ (by simpa using nbc)).trans sb1
    have sh2 : ((wz.setCell ⟨c, 0, none⟩ (.int .i64 16)).setCell ⟨c, 1, none⟩ (.int .i64 (m : Int))).heap[h]? = _ := (Below.heap_setCell _ _ _ _ (by simpa using nhc)).trans sh1
    have sc2 := set_row (i := 1) sc1 (.int .i64 (m : Int))
    have sB2 := sB1.setCell (p := ⟨c, 1, none⟩) (by show w.heap.size ≤ c; omega) (.int .i64 (m : Int))
    have w0 : ((wz.setCell ⟨c, 0, none⟩ (.int .i64 16)).setCell ⟨c, 1, none⟩ (.int .i64 (m : Int))).cell? ⟨b, 0, none⟩ = some (.slice (some ⟨h, 0, none⟩) 1 1) := cell_row (cs := [.slice (some ⟨h, 0, none⟩) 1 1, .int .i64 0, .slice none 0 0, .int .i64 100, .int .i64 50]) (i := 0) sb2 rfl
    have w1 : ((wz.setCell ⟨c, 0, none⟩ (.int .i64 16)).setCell ⟨c, 1, none⟩ (.int .i64 (m : Int))).cell? ⟨b, 1, none⟩ = some (.int .i64 0) := cell_row (cs := [.slice (some ⟨h, 0, none⟩) 1 1, .int .i64 0, .slice none 0 0, .int .i64 100, .int .i64 50]) (i := 1) sb2 rfl
    have w2 : ((wz.setCell ⟨c, 0, none⟩ (.int .i64 16)).setCell ⟨c, 1, none⟩ (.int .i64 (m : Int))).cell? ⟨b, 2, none⟩ = some (.slice none 0 0) := cell_row (cs := [.slice (some ⟨h, 0, none⟩) 1 1, .int .i64 0, .slice none 0 0, .int .i64 100, .int .i64 50]) (i := 2) sb2 rfl
    have w3 : ((wz.setCell ⟨c, 0, none⟩ (.int .i64 16)).setCell ⟨c, 1, none⟩ (.int .i64 (m : Int))).cell? ⟨b, 3, none⟩ = some (.int .i64 100) := cell_row (cs := [.slice (some ⟨h, 0, none⟩) 1 1, .int .i64 0, .slice none 0 0, .int .i64 100, .int .i64 50]) (i := 3) sb2 rfl
    have w4 : ((wz.setCell ⟨c, 0, none⟩ (.int .i64 16)).setCell ⟨c, 1, none⟩ (.int .i64 (m : Int))).cell? ⟨b, 4, none⟩ = some (.int .i64 50) := cell_row (cs := [.slice (some ⟨h, 0, none⟩) 1 1, .int .i64 0, .slice none 0 0, .int .i64 100, .int .i64 50]) (i := 4) sb2 rfl
    have HJ := hide (job1 (h := h) sh2 rfl (reads_row (xs := [.int .i64 16, .int .i64 (m : Int), .int .i64 18, .int .i64 0]) sc2) (Nat.le_refl _) rfl (.inl rfl) : JobR ((wz.setCell ⟨c, 0, none⟩ (.int .i64 16)).setCell ⟨c, 1, none⟩ (.int .i64 (m : Int))) ⟨some ⟨h, 0, none⟩, 1, 1, 0, none, 0, 0, 100, 50⟩ _ [⟨fnm, 0, 0, [(16, (m : Int)), (18, 0)]⟩] [])
    have HB := hide sB2
    have C := each_fin (want := 14) hE HB.out HJ.out (by simp) (small1 (n := 2) (s := 1) rfl rfl (by omega) (by omega)) (each_r13 m hm1 hm2)
    simp only [JV.cells] at C
    clear sb1 sb2 sh1 sh2 sc1 sc2 sB1 sB2
    go_wp2_with (first
      | (go_at_call 11; go_must (with_reducible refine C.mono ?_; (rintro e w9 ⟨r0, r1, rfl, hb9⟩)))
      | (go_at_call 13; go_must (with_reducible refine (NM _ _).mono ?_; (rintro e w10 ⟨rfl, hw10⟩); replace hw10 := hw10.symm; subst hw10)))
    go_ret
    exact ⟨rfl, hb9⟩
  have e13 : (x == 13) = false := by simp [k13]
  by_cases k14 : x = 14
  · subst k14
    have sb1 : (wz.setCell ⟨h, 3, none⟩ (.slice (some ⟨c, 0, none⟩) 1 2)).heap[b]? = _ := (Below.heap_setCell _ _ _ _ (by simpa using nbh)).trans HRB.out
    have sh1 := set_row (i := 3) HRH.out (.slice (some ⟨c, 0, none⟩) 1 2)
    have sc1 : (wz.setCell ⟨h, 3, none⟩ (.slice (some ⟨c, 0, none⟩) 1 2)).heap[c]? = _ := (Below.heap_setCell _ _ _ _ (by simpa using nch)).trans HRC.out
    have sB1 := HBC.out.setCell (p := ⟨h, 3, none⟩) (by show w.heap.size ≤ h; omega) (.slice (some ⟨c, 0, none⟩) 1 2)
    have w0 : (wz.setCell ⟨h, 3, none⟩ (.slice (some ⟨c, 0, none⟩) 1 2)).cell? ⟨b, 0, none⟩ = some (.slice (some ⟨h, 0, none⟩) 1 1) := cell_row (cs := [.slice (some ⟨h, 0, none⟩) 1 1, .int .i64 0, .slice none 0 0, .int .i64 100, .int .i64 50]) (i := 0) sb1 rfl
    have w1 : (wz.setCell ⟨h, 3, none⟩ (.slice (some ⟨c, 0, none⟩) 1 2)).cell? ⟨b, 1, none⟩ = some (.int .i64 0) := cell_row (cs := [.slice (some ⟨h, 0, none⟩) 1 1, .int .i64 0, .slice none 0 0, .int .i64 100, .int .i64 50]) (i := 1) sb1 rfl
    have w2 : (wz.setCell ⟨h, 3, none⟩ (.slice (some ⟨c, 0, none⟩) 1 2)).cell? ⟨b, 2, none⟩ = some (.slice none 0 0) := cell_row (cs := [.slice (some ⟨h, 0, none⟩) 1 1, .int .i64 0, .slice none 0 0, .int .i64 100, .int .i64 50]) (i := 2) sb1 rfl
    have w3 : (wz.setCell ⟨h, 3, none⟩ (.slice (some ⟨c, 0, none⟩) 1 2)).cell? ⟨b, 3, none⟩ = some (.int .i64 100) := cell_row (cs := [.slice (some ⟨h, 0, none⟩) 1 1, .int .i64 0, .slice none 0 0, .int .i64 100, .int .i64 50]) (i := 3) sb1 rfl
    have w4 : (wz.setCell ⟨h, 3, none⟩ (.slice (some ⟨c, 0, none⟩) 1 2)).cell? ⟨b, 4, none⟩ = some (.int .i64 50) := cell_row (cs := [.slice (some ⟨h, 0, none⟩) 1 1, .int .i64 0, .slice none 0 0, .int .i64 100, .int .i64 50]) (i := 4) sb1 rfl
    have HJ := hide (job1 (h := h) sh1 rfl (reads_take1 (reads_row (xs := [.int .i64 1, .int .i64 5, .int .i64 18, .int .i64 0]) sc1)) (Nat.le_refl _) rfl (.inl rfl) : JobR (wz.setCell ⟨h, 3, none⟩ (.slice (some ⟨c, 0, none⟩) 1 2)) ⟨some ⟨h, 0, none⟩, 1, 1, 0, none, 0, 0, 100, 50⟩ _ [⟨fnm, 0, 0, [(1, 5)]⟩] [])
    have HB := hide sB1
    have C := each_fin (want := 11) hE HB.out HJ.out (by simp) (small1 (n := 1) (s := 1) rfl rfl (by omega) (by omega)) (each_r14 m hm1 hm2)
    simp only [JV.cells] at C
    clear sb1 sh1 sc1 sB1
    go_wp2_with (first
      | (go_at_call 11; go_must (with_reducible refine C.mono ?_; (rintro e w9 ⟨r0, r1, rfl, hb9⟩)))
      | (go_at_call 13; go_must (with_reducible refine (NM _ _).mono ?_; (rintro e w10 ⟨rfl, hw10⟩); replace hw10 := hw10.symm; subst hw10)))
    go_ret
    exact ⟨rfl, hb9⟩
  have e14 : (x == 14) = false := by simp [k14]
  by_cases k15 : x = 15
  · subst k15
    have sb1 : (wz.setCell ⟨c, 0, none⟩ (.int .i64 4)).heap[b]? = _ := (Below.heap_setCell _ _ _ _ (by simpa using nbc)).trans HRB.out
    have sh1 : (wz.setCell ⟨c, 0, none⟩ (.int .i64 4)).heap[h]? = _ := (Below.heap_setCell _ _ _ _ (by simpa using nhc)).trans HRH.out
    have sc1 := set_row (i := 0) HRC.out (.int .i64 4)
    have sB1 := HBC.out.setCell (p := ⟨c, 0, none⟩) (by show w.heap.size ≤ c; omega) (.int .i64 4)
    have sb2 : ((wz.setCell ⟨c, 0, none⟩ (.int .i64 4)).setCell ⟨c, 1, none⟩ (.int .i64 0)).heap[b]? = _ := (Below.heap_setCell _ _ _ _ (by simpa using nbc)).trans sb1
    have sh2 : ((wz.setCell ⟨c, 0, none⟩ (.int .i64 4)).setCell ⟨c, 1, none⟩ (.int .i64 0)).heap[h]? = _ := (Below.heap_setCell _ _ _ _ (by simpa using nhc)).trans sh1
    have sc2 := set_row (i := 1) sc1 (.int .i64 0)
    have sB2 := sB1.setCell (p := ⟨c, 1, none⟩) (by show w.heap.size ≤ c; omega) (.int .i64 0)
    have w0 : ((wz.setCell ⟨c, 0, none⟩ (.int .i64 4)).setCell ⟨c, 1, none⟩ (.int .i64 0)).cell? ⟨b, 0, none⟩ = some (.slice (some ⟨h, 0, none⟩) 1 1) := cell_row (cs := [.slice (some ⟨h, 0, none⟩) 1 1, .int .i64 0, .slice none 0 0, .int .i64 100, .int .i64 50]) (i := 0) sb2 rfl
    have w1 : ((wz.setCell ⟨c, 0, none⟩ (.int .i64 4)).setCell ⟨c, 1, none⟩ (.int .i64 0)).cell? ⟨b, 1, none⟩ = some (.int .i64 0) := cell_row (cs := [.slice (some ⟨h, 0, none⟩) 1 1, .int .i64 0, .slice none 0 0, .int .i64 100, .int .i64 50]) (i := 1) sb2 rfl
    have w2 : ((wz.setCell ⟨c, 0, none⟩ (.int .i64 4)).setCell ⟨c, 1, none⟩ (.int .i64 0)).cell? ⟨b, 2, none⟩ = some (.slice none 0 0) := cell_row (cs := [.slice (some ⟨h, 0, none⟩) 1 1, .int .i64 0, .slice none 0 0, .int .i64 100, .int .i64 50]) (i := 2) sb2 rfl
    have w3 : ((wz.setCell ⟨c, 0, none⟩ (.int .i64 4)).setCell ⟨c, 1, none⟩ (.int .i64 0)).cell? ⟨b, 3, none⟩ = some (.int .i64 100) := cell_row (cs := [.slice (some ⟨h, 0, none⟩) 1 1, .int .i64 0, .slice none 0 0, .int .i64 100, .int .i64 50]) (i := 3) sb2 rfl
    have w4 : ((wz.setCell ⟨c, 0, none⟩ (.int .i64 4)).setCell ⟨c, 1, none⟩ (.int .i64 0)).cell? ⟨b, 4, none⟩ = some (.int .i64 50) := cell_row (cs := [.slice (some ⟨h, 0, none⟩) 1 1, .int .i64 0, .slice none 0 0, .int .i64 100, .int .i64 50]) (i := 4) sb2 rfl
    have HJ := hide (job1 (h := h) sh2 rfl (reads_row (xs := [.int .i64 4, .int .i64 0, .int .i64 18, .int .i64 0]) sc2) (Nat.le_refl _) rfl (.inl rfl) : JobR ((wz.setCell ⟨c, 0, none⟩ (.int .i64 4)).setCell ⟨c, 1, none⟩ (.int .i64 0)) ⟨some ⟨h, 0, none⟩, 1, 1, 0, none, 0, 0, 100, 50⟩ _ [⟨fnm, 0, 0, [(4, 0), (18, 0)]⟩] [])
    have HB := hide sB2
    have C := each_fin (want := 12) hE HB.out HJ.out (by simp) (small1 (n := 2) (s := 1) rfl rfl (by omega) (by omega)) (each_r15 m hm1 hm2)
    simp only [JV.cells] at C
    clear sb1 sb2 sh1 sh2 sc1 sc2 sB1 sB2
    go_wp2_with (first
      | (go_at_call 11; go_must (with_reducible refine C.mono ?_; (rintro e w9 ⟨r0, r1, rfl, hb9⟩)))
      | (go_at_call 13; go_must (with_reducible refine (NM _ _).mono ?_; (rintro e w10 ⟨rfl, hw10⟩); replace hw10 := hw10.symm; subst hw10)))
    go_ret
    exact ⟨rfl, hb9⟩
  have e15 : (x == 15) = false := by simp [k15]
  by_cases k16 : x = 16
  · subst k16
    have sb1 : (wz.setCell ⟨h, 3, none⟩ (.slice (some ⟨wz.heap.size, 0, none⟩) 2 2)).heap[b]? = _ := (Below.heap_setCell _ _ _ _ (by simpa using nbh)).trans HRB.out
    have sh1 := set_row (i := 3) HRH.out (.slice (some ⟨wz.heap.size, 0, none⟩) 2 2)
    have sc1 : (wz.setCell ⟨h, 3, none⟩ (.slice (some ⟨wz.heap.size, 0, none⟩) 2 2)).heap[c]? = _ := (Below.heap_setCell _ _ _ _ (by simpa using nch)).trans HRC.out
    have sB1 := HBC.out.setCell (p := ⟨h, 3, none⟩) (by show w.heap.size ≤ h; omega) (.slice (some ⟨wz.heap.size, 0, none⟩) 2 2)
    have lb := lt_row HRB.out
    have lh := lt_row HRH.out
    have hsz : (wz.setCell ⟨h, 3, none⟩ (.slice (some ⟨wz.heap.size, 0, none⟩) 2 2)).heap.size = wz.heap.size := by simp [World.setCell]
    have sb2 := heap_row sb1 (alloc_below (wz.setCell ⟨h, 3, none⟩ (.slice (some ⟨wz.heap.size, 0, none⟩) 2 2)) (.cells #[.int .i64 1, .int .i64 0, .int .i64 14, .int .i64 0] 39))
    have sh2 := heap_row sh1 (alloc_below (wz.setCell ⟨h, 3, none⟩ (.slice (some ⟨wz.heap.size, 0, none⟩) 2 2)) (.cells #[.int .i64 1, .int .i64 0, .int .i64 14, .int .i64 0] 39))
    have sc2 := heap_row sc1 (alloc_below (wz.setCell ⟨h, 3, none⟩ (.slice (some ⟨wz.heap.size, 0, none⟩) 2 2)) (.cells #[.int .i64 1, .int .i64 0, .int .i64 14, .int .i64 0] 39))
    have sN : ((wz.setCell ⟨h, 3, none⟩ (.slice (some ⟨wz.heap.size, 0, none⟩) 2 2)).alloc (.cells #[.int .i64 1, .int .i64 0, .int .i64 14, .int .i64 0] 39)).heap[wz.heap.size]? = some (.cells #[.int .i64 1, .int .i64 0, .int .i64 14, .int .i64 0] 39) := (congrArg (fun i => ((wz.setCell ⟨h, 3, none⟩ (.slice (some ⟨wz.heap.size, 0, none⟩) 2 2)).alloc (.cells #[.int .i64 1, .int .i64 0, .int .i64 14, .int .i64 0] 39)).heap[i]?) hsz.symm).trans (heap_alloc_new (wz.setCell ⟨h, 3, none⟩ (.slice (some ⟨wz.heap.size, 0, none⟩) 2 2)) (.cells #[.int .i64 1, .int .i64 0, .int .i64 14, .int .i64 0] 39))
    have sB2 := chain sB1 (alloc_below (wz.setCell ⟨h, 3, none⟩ (.slice (some ⟨wz.heap.size, 0, none⟩) 2 2)) (.cells #[.int .i64 1, .int .i64 0, .int .i64 14, .int .i64 0] 39))
    have w0 : ((wz.setCell ⟨h, 3, none⟩ (.slice (some ⟨wz.heap.size, 0, none⟩) 2 2)).alloc (.cells #[.int .i64 1, .int .i64 0, .int .i64 14, .int .i64 0] 39)).cell? ⟨b, 0, none⟩ = some (.slice (some ⟨h, 0, none⟩) 1 1) := cell_row (cs := [.slice (some ⟨h, 0, none⟩) 1 1, .int .i64 0, .slice none 0 0, .int .i64 100, .int .i64 50]) (i := 0) sb2 rfl
    have w1 : ((wz.setCell ⟨h, 3, none⟩ (.slice (some ⟨wz.heap.size, 0, none⟩) 2 2)).alloc (.cells #[.int .i64 1, .int .i64 0, .int .i64 14, .int .i64 0] 39)).cell? ⟨b, 1, none⟩ = some (.int .i64 0) := cell_row (cs := [.slice (some ⟨h, 0, none⟩) 1 1, .int .i64 0, .slice none 0 0, .int .i64 100, .int .i64 50]) (i := 1) sb2 rfl
    have w2 : ((wz.setCell ⟨h, 3, none⟩ (.slice (some ⟨wz.heap.size, 0, none⟩) 2 2)).alloc (.cells #[.int .i64 1, .int .i64 0, .int .i64 14, .int .i64 0] 39)).cell? ⟨b, 2, none⟩ = some (.slice none 0 0) := cell_row (cs := [.slice (some ⟨h, 0, none⟩) 1 1, .int .i64 0, .slice none 0 0, .int .i64 100, .int .i64 50]) (i := 2) sb2 rfl
    have w3 : ((wz.setCell ⟨h, 3, none⟩ (.slice (some ⟨wz.heap.size, 0, none⟩) 2 2)).alloc (.cells #[.int .i64 1, .int .i64 0, .int .i64 14, .int .i64 0] 39)).cell? ⟨b, 3, none⟩ = some (.int .i64 100) := cell_row (cs := [.slice (some ⟨h, 0, none⟩) 1 1, .int .i64 0, .slice none 0 0, .int .i64 100, .int .i64 50]) (i := 3) sb2 rfl
    have w4 : ((wz.setCell ⟨h, 3, none⟩ (.slice (some ⟨wz.heap.size, 0, none⟩) 2 2)).alloc (.cells #[.int .i64 1, .int .i64 0, .int .i64 14, .int .i64 0] 39)).cell? ⟨b, 4, none⟩ = some (.int .i64 50) := cell_row (cs := [.slice (some ⟨h, 0, none⟩) 1 1, .int .i64 0, .slice none 0 0, .int .i64 100, .int .i64 50]) (i := 4) sb2 rfl
    have HJ := hide (job1 (h := h) sh2 rfl (reads_row (xs := [.int .i64 1, .int .i64 0, .int .i64 14, .int .i64 0]) sN) (Nat.le_refl _) rfl (.inl rfl) : JobR ((wz.setCell ⟨h, 3, none⟩ (.slice (some ⟨wz.heap.size, 0, none⟩) 2 2)).alloc (.cells #[.int .i64 1, .int .i64 0, .int .i64 14, .int .i64 0] 39)) ⟨some ⟨h, 0, none⟩, 1, 1, 0, none, 0, 0, 100, 50⟩ _ [⟨fnm, 0, 0, [(1, 0), (14, 0)]⟩] [])
    have HB := hide sB2
    have C := each_fin (want := 12) hE HB.out HJ.out (by simp) (small1 (n := 2) (s := 1) rfl rfl (by omega) (by omega)) (each_r16 m hm1 hm2)
    simp only [JV.cells] at C
    clear sb1 sb2 sh1 sh2 sc1 sc2 sB1 sB2 hsz sN
    go_wp2_with (first
      | (go_at_call 11; go_must (with_reducible refine C.mono ?_; (rintro e w9 ⟨r0, r1, rfl, hb9⟩)))
      | (go_at_call 13; go_must (with_reducible refine (NM _ _).mono ?_; (rintro e w10 ⟨rfl, hw10⟩); replace hw10 := hw10.symm; subst hw10)))
    go_ret
    exact ⟨rfl, hb9⟩
  have e16 : (x == 16) = false := by simp [k16]
  by_cases k17 : x = 17
  · subst k17
    obtain ⟨i0, hi, hz0, hz1, hz2⟩ := info_parts Tryd.info43
    go_upto_region 62 with fail
    have hol : ∀ W, Below wz.heap.size wz W → ∀ a : Addr, some (⟨h, 0, none⟩ : Addr) = some a → ∀ j u, ([.string fnm, .int .i64 0, .int .i64 0, .slice (some ⟨c, 0, none⟩) 2 2] : List Value)[j]? = some u → W.cell? (a.add j) = some u := fun W hW a ha j u hu => by
      cases ha
      rw [add_none, Nat.zero_add]
      exact keep_cell (cell_row (cs := [.string fnm, .int .i64 0, .int .i64 0, .slice (some ⟨c, 0, none⟩) 2 2]) HRH.out hu) hW
    have hN : Below wz.heap.size wz wz.drew := (Below.refl _ _).drew
    refine wp_region_held_drew (S := fun W => W.cell? ⟨h, 0, none⟩ = some (.string fnm) ∧ W.cell? ⟨h, 1, none⟩ = some (.int .i64 0) ∧ W.cell? ⟨h, 2, none⟩ = some (.int .i64 0) ∧ W.cell? ⟨h, 3, none⟩ = some (.slice (some ⟨c, 0, none⟩) 2 2)) (by kernel_rfl) ⟨keep_cell f0 hN, keep_cell f1 hN, keep_cell f2 hN, keep_cell f3 hN⟩ (fun hHeld => ?_)
    refine takeD (i := 0) (d := some 157) (v := ?_) rfl rfl (by kernel_rfl) (by kernel_rfl) (by kernel_rfl) (fun _ _ _ h => h) (Or.inl ⟨by rfl, ?_⟩) (by assumption) ?_
    rotate_left
    · intro w hSw
      go_simp
      try (with_reducible rfl)
    try simp only [Act.put, List.setIfInBounds_toArray, List.set_cons_zero, List.set_cons_succ]
    refine takeD (i := 2) (d := some 159) (v := ?_) rfl rfl (by kernel_rfl) (by kernel_rfl) (by kernel_rfl) (fun _ _ _ h => h) (Or.inl ⟨by rfl, ?_⟩) (by assumption) ?_
    rotate_left
    · intro w hSw
      go_simp
      try (with_reducible rfl)
    try simp only [Act.put, List.setIfInBounds_toArray, List.set_cons_zero, List.set_cons_succ]
    refine wpAnyH_ready (rs := [1, 3]) (by kernel_rfl) (by simp) ?_
    refine AllReadyH.cons rfl (fun K hK => ?_) (AllReadyH.cons rfl (fun K hK => ?_) AllReadyH.nil)
    · have yb := keep_cell b0 hN
      go_simp
      refine hK.out _ _ ⟨keep_cell f0 hN, keep_cell f1 hN, keep_cell f2 hN, keep_cell f3 hN⟩ (fun hHeld => ?_)
      clear hK K yb
      try simp only [Act.put, List.setIfInBounds_toArray, List.set_cons_zero, List.set_cons_succ]
      refine wpAnyH_ready (rs := [3]) (by kernel_rfl) (by simp) ?_
      refine AllReadyH.cons rfl (fun K hK => ?_) AllReadyH.nil
      have yb := keep_cell b0 hN
      go_simp
      refine hK.out _ _ ⟨keep_cell f0 hN, keep_cell f1 hN, keep_cell f2 hN, keep_cell f3 hN⟩ (fun hHeld => ?_)
      clear hK K yb
      try simp only [Act.put, List.setIfInBounds_toArray, List.set_cons_zero, List.set_cons_succ]
      refine takeD (i := 4) (d := some 161) (v := ?_) rfl rfl (by kernel_rfl) (by kernel_rfl) (by kernel_rfl) (fun _ _ _ h => h) (Or.inl ⟨by rfl, ?_⟩) (by assumption) ?_
      rotate_left
      · intro w hSw
        go_simp
        try (with_reducible rfl)
      try simp only [Act.put, List.setIfInBounds_toArray, List.set_cons_zero, List.set_cons_succ]
      refine takeD (i := 5) (d := some 162) (v := ?_) rfl rfl (by kernel_rfl) (by kernel_rfl) (by kernel_rfl) (fun _ _ _ h => h) (Or.inl ⟨by rfl, ?_⟩) (by assumption) ?_
      rotate_left
      · intro w hSw
        go_simp
        try (with_reducible rfl)
      try simp only [Act.put, List.setIfInBounds_toArray, List.set_cons_zero, List.set_cons_succ]
      refine wpAnyH_ready (rs := [6]) (by kernel_rfl) (by simp) ?_
      refine AllReadyH.cons rfl (fun K hK => ?_) AllReadyH.nil
      have hcn := cells_new wz.drew [.string fnm, .int .i64 0, .int .i64 0, .slice (some ⟨c, 0, none⟩) 2 2] 43
      have hN := chain hN (alloc_below wz.drew (.cells #[.string fnm, .int .i64 0, .int .i64 0, .slice (some ⟨c, 0, none⟩) 2 2] 43))
      go_simp
      clear hHeld
      refine hK.out _ _ ⟨keep_cell f0 hN, keep_cell f1 hN, keep_cell f2 hN, keep_cell f3 hN⟩ (fun hHeld => ?_)
      clear hK K
      try simp only [Act.put, List.setIfInBounds_toArray, List.set_cons_zero, List.set_cons_succ]
      refine wpAnyH_ready (rs := [7]) (by kernel_rfl) (by simp) ?_
      refine AllReadyH.cons rfl (fun K hK => ?_) AllReadyH.nil
      refine step_append_grows rfl (.tmp 158) (.tmp 163) 22 rfl 43 i0 (.agg #[.string ⟨#[]⟩, .int .i64 0, .int .i64 0, .slice none 0 0]) 4 56 Tryd.underlying22 hi hz0 hz1 hz2 rfl (by decide) (some ⟨h, 0, none⟩) 1 1 [.string fnm, .int .i64 0, .int .i64 0, .slice (some ⟨c, 0, none⟩) 2 2] rfl (by simp) rfl (hol _ hN) ⟨wz.heap.size, 0, none⟩ 1 1 [.string fnm, .int .i64 0, .int .i64 0, .slice (some ⟨c, 0, none⟩) 2 2] rfl rfl hcn (by simp [Value.oneCell']) (by omega) (by unfold maxLen; omega) (by omega) ?_
      intro v2 w2 ho2 hg2
      obtain ⟨va, vc, rfl⟩ := own_any ho2
      have hb2 := below_of hg2
      have hN7 := hN
      have hN := chain hN hb2
      clear hHeld
      refine hK.out _ _ ⟨keep_cell f0 hN, keep_cell f1 hN, keep_cell f2 hN, keep_cell f3 hN⟩ (fun hHeld => ?_)
      clear hK K
      try simp only [Act.put, List.setIfInBounds_toArray, List.set_cons_zero, List.set_cons_succ]
      refine takeD (i := 8) (d := some 165) (v := ?_) rfl rfl (by kernel_rfl) (by kernel_rfl) (by kernel_rfl) (fun _ _ _ h => h) (Or.inl ⟨by rfl, ?_⟩) (by assumption) ?_
      rotate_left
      · intro w hSw
        go_simp
        try (with_reducible rfl)
      try simp only [Act.put, List.setIfInBounds_toArray, List.set_cons_zero, List.set_cons_succ]
      refine wpAnyH_ready (rs := [9]) (by kernel_rfl) (by simp) ?_
      refine AllReadyH.cons rfl (fun K hK => ?_) AllReadyH.nil
      have yb := keep_cell b0 hN
      have zb2 := (keep_frozen b0 hN).trans (zb 0)
      have hN8 := hN
      go_simp
      refine hK.out _ _ ⟨by rw [World.cell?_setCell_far _ _ _ _ (by simpa using nbh)]; exact keep_cell f0 hN, by rw [World.cell?_setCell_far _ _ _ _ (by simpa using nbh)]; exact keep_cell f1 hN, by rw [World.cell?_setCell_far _ _ _ _ (by simpa using nbh)]; exact keep_cell f2 hN, by rw [World.cell?_setCell_far _ _ _ _ (by simpa using nbh)]; exact keep_cell f3 hN⟩ (fun hHeld => ?_)
      clear hK K
      refine wpAnyH_done (by kernel_rfl) ?_ _
      clear hHeld
      have hrow2 := heap_row HRB.out hN
      have s0 := set_row (i := 0) hrow2 (.slice va (1 + 1) vc)
      have jw0 : (w2.setCell ⟨b, 0, none⟩ (.slice va (1 + 1) vc)).cell? ⟨b, 0, none⟩ = some (.slice va (1 + 1) vc) := cell_row (cs := [.slice va (1 + 1) vc, .int .i64 0, .slice none 0 0, .int .i64 100, .int .i64 50]) (i := 0) s0 rfl
      have jw1 : (w2.setCell ⟨b, 0, none⟩ (.slice va (1 + 1) vc)).cell? ⟨b, 1, none⟩ = some (.int .i64 0) := cell_row (cs := [.slice va (1 + 1) vc, .int .i64 0, .slice none 0 0, .int .i64 100, .int .i64 50]) (i := 1) s0 rfl
      have jw2 : (w2.setCell ⟨b, 0, none⟩ (.slice va (1 + 1) vc)).cell? ⟨b, 2, none⟩ = some (.slice none 0 0) := cell_row (cs := [.slice va (1 + 1) vc, .int .i64 0, .slice none 0 0, .int .i64 100, .int .i64 50]) (i := 2) s0 rfl
      have jw3 : (w2.setCell ⟨b, 0, none⟩ (.slice va (1 + 1) vc)).cell? ⟨b, 3, none⟩ = some (.int .i64 100) := cell_row (cs := [.slice va (1 + 1) vc, .int .i64 0, .slice none 0 0, .int .i64 100, .int .i64 50]) (i := 3) s0 rfl
      have jw4 : (w2.setCell ⟨b, 0, none⟩ (.slice va (1 + 1) vc)).cell? ⟨b, 4, none⟩ = some (.int .i64 50) := cell_row (cs := [.slice va (1 + 1) vc, .int .i64 0, .slice none 0 0, .int .i64 100, .int .i64 50]) (i := 4) s0 rfl
      have HB := hide ((chain HBC.out hN).setCell (p := ⟨b, 0, none⟩) (by show w.heap.size ≤ b; omega) (.slice va (1 + 1) vc))
      have hc2 : (w2.setCell ⟨b, 0, none⟩ (.slice va (1 + 1) vc)).heap[c]? = _ := (Below.heap_setCell _ _ _ _ (by simpa using ncb)).trans (heap_row HRC.out hN)
      have hgr := grown_setCell w2 b 0 (.slice va (1 + 1) vc)
      have ho3 := ho2.kept hgr (own_ne ho2 (heap_row HRB.out hN) (by decide))
      have HJ := hide (job2 (cap := vc) (mn := 0) (fu := 100) (ta := 50) ho3 (reads_row (xs := [.int .i64 1, .int .i64 5, .int .i64 18, .int .i64 0]) hc2))
      have C := each_fin (want := 6) hE HB.out HJ.out (by simp) (fun g hg => by simp at hg; subst hg; exact ⟨by show 2 ≤ 1000000000; omega, by show fnm.size < _; decide⟩) each_r17
      simp only [JV.cells] at C
      clear hrow2 s0 hc2 hgr ho3 ho2 hg2 hb2 hN7 hN8 yb zb2 hcn hol
      go_wp2_with (first
        | (go_at_call 11; go_must (with_reducible refine C.mono ?_; (rintro e w9 ⟨r0, r1, rfl, hb9⟩)))
        | (go_at_call 13; go_must (with_reducible refine (NM _ _).mono ?_; (rintro e w10 ⟨rfl, hw10⟩); replace hw10 := hw10.symm; subst hw10)))
      go_ret
      exact ⟨rfl, hb9⟩
    · have yb := keep_cell b0 hN
      go_simp
      refine hK.out _ _ ⟨keep_cell f0 hN, keep_cell f1 hN, keep_cell f2 hN, keep_cell f3 hN⟩ (fun hHeld => ?_)
      clear hK K yb
      try simp only [Act.put, List.setIfInBounds_toArray, List.set_cons_zero, List.set_cons_succ]
      refine takeD (i := 4) (d := some 161) (v := ?_) rfl rfl (by kernel_rfl) (by kernel_rfl) (by kernel_rfl) (fun _ _ _ h => h) (Or.inl ⟨by rfl, ?_⟩) (by assumption) ?_
      rotate_left
      · intro w hSw
        go_simp
        try (with_reducible rfl)
      try simp only [Act.put, List.setIfInBounds_toArray, List.set_cons_zero, List.set_cons_succ]
      refine takeD (i := 5) (d := some 162) (v := ?_) rfl rfl (by kernel_rfl) (by kernel_rfl) (by kernel_rfl) (fun _ _ _ h => h) (Or.inl ⟨by rfl, ?_⟩) (by assumption) ?_
      rotate_left
      · intro w hSw
        go_simp
        try (with_reducible rfl)
      try simp only [Act.put, List.setIfInBounds_toArray, List.set_cons_zero, List.set_cons_succ]
      refine wpAnyH_ready (rs := [1, 6]) (by kernel_rfl) (by simp) ?_
      refine AllReadyH.cons rfl (fun K hK => ?_) (AllReadyH.cons rfl (fun K hK => ?_) AllReadyH.nil)
      · have yb := keep_cell b0 hN
        go_simp
        refine hK.out _ _ ⟨keep_cell f0 hN, keep_cell f1 hN, keep_cell f2 hN, keep_cell f3 hN⟩ (fun hHeld => ?_)
        clear hK K yb
        try simp only [Act.put, List.setIfInBounds_toArray, List.set_cons_zero, List.set_cons_succ]
        refine wpAnyH_ready (rs := [6]) (by kernel_rfl) (by simp) ?_
        refine AllReadyH.cons rfl (fun K hK => ?_) AllReadyH.nil
        have hcn := cells_new wz.drew [.string fnm, .int .i64 0, .int .i64 0, .slice (some ⟨c, 0, none⟩) 2 2] 43
        have hN := chain hN (alloc_below wz.drew (.cells #[.string fnm, .int .i64 0, .int .i64 0, .slice (some ⟨c, 0, none⟩) 2 2] 43))
        go_simp
        clear hHeld
        refine hK.out _ _ ⟨keep_cell f0 hN, keep_cell f1 hN, keep_cell f2 hN, keep_cell f3 hN⟩ (fun hHeld => ?_)
        clear hK K
        try simp only [Act.put, List.setIfInBounds_toArray, List.set_cons_zero, List.set_cons_succ]
        refine wpAnyH_ready (rs := [7]) (by kernel_rfl) (by simp) ?_
        refine AllReadyH.cons rfl (fun K hK => ?_) AllReadyH.nil
        refine step_append_grows rfl (.tmp 158) (.tmp 163) 22 rfl 43 i0 (.agg #[.string ⟨#[]⟩, .int .i64 0, .int .i64 0, .slice none 0 0]) 4 56 Tryd.underlying22 hi hz0 hz1 hz2 rfl (by decide) (some ⟨h, 0, none⟩) 1 1 [.string fnm, .int .i64 0, .int .i64 0, .slice (some ⟨c, 0, none⟩) 2 2] rfl (by simp) rfl (hol _ hN) ⟨wz.heap.size, 0, none⟩ 1 1 [.string fnm, .int .i64 0, .int .i64 0, .slice (some ⟨c, 0, none⟩) 2 2] rfl rfl hcn (by simp [Value.oneCell']) (by omega) (by unfold maxLen; omega) (by omega) ?_
        intro v2 w2 ho2 hg2
        obtain ⟨va, vc, rfl⟩ := own_any ho2
        have hb2 := below_of hg2
        have hN7 := hN
        have hN := chain hN hb2
        clear hHeld
        refine hK.out _ _ ⟨keep_cell f0 hN, keep_cell f1 hN, keep_cell f2 hN, keep_cell f3 hN⟩ (fun hHeld => ?_)
        clear hK K
        try simp only [Act.put, List.setIfInBounds_toArray, List.set_cons_zero, List.set_cons_succ]
        refine takeD (i := 8) (d := some 165) (v := ?_) rfl rfl (by kernel_rfl) (by kernel_rfl) (by kernel_rfl) (fun _ _ _ h => h) (Or.inl ⟨by rfl, ?_⟩) (by assumption) ?_
        rotate_left
        · intro w hSw
          go_simp
          try (with_reducible rfl)
        try simp only [Act.put, List.setIfInBounds_toArray, List.set_cons_zero, List.set_cons_succ]
        refine wpAnyH_ready (rs := [9]) (by kernel_rfl) (by simp) ?_
        refine AllReadyH.cons rfl (fun K hK => ?_) AllReadyH.nil
        have yb := keep_cell b0 hN
        have zb2 := (keep_frozen b0 hN).trans (zb 0)
        have hN8 := hN
        go_simp
        refine hK.out _ _ ⟨by rw [World.cell?_setCell_far _ _ _ _ (by simpa using nbh)]; exact keep_cell f0 hN, by rw [World.cell?_setCell_far _ _ _ _ (by simpa using nbh)]; exact keep_cell f1 hN, by rw [World.cell?_setCell_far _ _ _ _ (by simpa using nbh)]; exact keep_cell f2 hN, by rw [World.cell?_setCell_far _ _ _ _ (by simpa using nbh)]; exact keep_cell f3 hN⟩ (fun hHeld => ?_)
        clear hK K
        refine wpAnyH_done (by kernel_rfl) ?_ _
        clear hHeld
        have hrow2 := heap_row HRB.out hN
        have s0 := set_row (i := 0) hrow2 (.slice va (1 + 1) vc)
        have jw0 : (w2.setCell ⟨b, 0, none⟩ (.slice va (1 + 1) vc)).cell? ⟨b, 0, none⟩ = some (.slice va (1 + 1) vc) := cell_row (cs := [.slice va (1 + 1) vc, .int .i64 0, .slice none 0 0, .int .i64 100, .int .i64 50]) (i := 0) s0 rfl
        have jw1 : (w2.setCell ⟨b, 0, none⟩ (.slice va (1 + 1) vc)).cell? ⟨b, 1, none⟩ = some (.int .i64 0) := cell_row (cs := [.slice va (1 + 1) vc, .int .i64 0, .slice none 0 0, .int .i64 100, .int .i64 50]) (i := 1) s0 rfl
        have jw2 : (w2.setCell ⟨b, 0, none⟩ (.slice va (1 + 1) vc)).cell? ⟨b, 2, none⟩ = some (.slice none 0 0) := cell_row (cs := [.slice va (1 + 1) vc, .int .i64 0, .slice none 0 0, .int .i64 100, .int .i64 50]) (i := 2) s0 rfl
        have jw3 : (w2.setCell ⟨b, 0, none⟩ (.slice va (1 + 1) vc)).cell? ⟨b, 3, none⟩ = some (.int .i64 100) := cell_row (cs := [.slice va (1 + 1) vc, .int .i64 0, .slice none 0 0, .int .i64 100, .int .i64 50]) (i := 3) s0 rfl
        have jw4 : (w2.setCell ⟨b, 0, none⟩ (.slice va (1 + 1) vc)).cell? ⟨b, 4, none⟩ = some (.int .i64 50) := cell_row (cs := [.slice va (1 + 1) vc, .int .i64 0, .slice none 0 0, .int .i64 100, .int .i64 50]) (i := 4) s0 rfl
        have HB := hide ((chain HBC.out hN).setCell (p := ⟨b, 0, none⟩) (by show w.heap.size ≤ b; omega) (.slice va (1 + 1) vc))
        have hc2 : (w2.setCell ⟨b, 0, none⟩ (.slice va (1 + 1) vc)).heap[c]? = _ := (Below.heap_setCell _ _ _ _ (by simpa using ncb)).trans (heap_row HRC.out hN)
        have hgr := grown_setCell w2 b 0 (.slice va (1 + 1) vc)
        have ho3 := ho2.kept hgr (own_ne ho2 (heap_row HRB.out hN) (by decide))
        have HJ := hide (job2 (cap := vc) (mn := 0) (fu := 100) (ta := 50) ho3 (reads_row (xs := [.int .i64 1, .int .i64 5, .int .i64 18, .int .i64 0]) hc2))
        have C := each_fin (want := 6) hE HB.out HJ.out (by simp) (fun g hg => by simp at hg; subst hg; exact ⟨by show 2 ≤ 1000000000; omega, by show fnm.size < _; decide⟩) each_r17
        simp only [JV.cells] at C
        clear hrow2 s0 hc2 hgr ho3 ho2 hg2 hb2 hN7 hN8 yb zb2 hcn hol
        go_wp2_with (first
          | (go_at_call 11; go_must (with_reducible refine C.mono ?_; (rintro e w9 ⟨r0, r1, rfl, hb9⟩)))
          | (go_at_call 13; go_must (with_reducible refine (NM _ _).mono ?_; (rintro e w10 ⟨rfl, hw10⟩); replace hw10 := hw10.symm; subst hw10)))
        go_ret
        exact ⟨rfl, hb9⟩
      · have hcn := cells_new wz.drew [.string fnm, .int .i64 0, .int .i64 0, .slice (some ⟨c, 0, none⟩) 2 2] 43
        have hN := chain hN (alloc_below wz.drew (.cells #[.string fnm, .int .i64 0, .int .i64 0, .slice (some ⟨c, 0, none⟩) 2 2] 43))
        go_simp
        clear hHeld
        refine hK.out _ _ ⟨keep_cell f0 hN, keep_cell f1 hN, keep_cell f2 hN, keep_cell f3 hN⟩ (fun hHeld => ?_)
        clear hK K
        try simp only [Act.put, List.setIfInBounds_toArray, List.set_cons_zero, List.set_cons_succ]
        refine wpAnyH_ready (rs := [1]) (by kernel_rfl) (by simp) ?_
        refine AllReadyH.cons rfl (fun K hK => ?_) AllReadyH.nil
        have yb := keep_cell b0 hN
        have yb2 := keep_cell b0 ((alloc_below wz (.cells #[.string fnm, .int .i64 0, .int .i64 0, .slice (some ⟨c, 0, none⟩) 2 2] 43)).drew)
        go_simp
        refine hK.out _ _ ⟨keep_cell f0 hN, keep_cell f1 hN, keep_cell f2 hN, keep_cell f3 hN⟩ (fun hHeld => ?_)
        clear hK K yb yb2
        try simp only [Act.put, List.setIfInBounds_toArray, List.set_cons_zero, List.set_cons_succ]
        refine wpAnyH_ready (rs := [7]) (by kernel_rfl) (by simp) ?_
        refine AllReadyH.cons rfl (fun K hK => ?_) AllReadyH.nil
        refine step_append_grows rfl (.tmp 158) (.tmp 163) 22 rfl 43 i0 (.agg #[.string ⟨#[]⟩, .int .i64 0, .int .i64 0, .slice none 0 0]) 4 56 Tryd.underlying22 hi hz0 hz1 hz2 rfl (by decide) (some ⟨h, 0, none⟩) 1 1 [.string fnm, .int .i64 0, .int .i64 0, .slice (some ⟨c, 0, none⟩) 2 2] rfl (by simp) rfl (hol _ hN) ⟨wz.heap.size, 0, none⟩ 1 1 [.string fnm, .int .i64 0, .int .i64 0, .slice (some ⟨c, 0, none⟩) 2 2] rfl rfl hcn (by simp [Value.oneCell']) (by omega) (by unfold maxLen; omega) (by omega) ?_
        intro v2 w2 ho2 hg2
        obtain ⟨va, vc, rfl⟩ := own_any ho2
        have hb2 := below_of hg2
        have hN7 := hN
        have hN := chain hN hb2
        clear hHeld
        refine hK.out _ _ ⟨keep_cell f0 hN, keep_cell f1 hN, keep_cell f2 hN, keep_cell f3 hN⟩ (fun hHeld => ?_)
        clear hK K
        try simp only [Act.put, List.setIfInBounds_toArray, List.set_cons_zero, List.set_cons_succ]
        refine takeD (i := 8) (d := some 165) (v := ?_) rfl rfl (by kernel_rfl) (by kernel_rfl) (by kernel_rfl) (fun _ _ _ h => h) (Or.inl ⟨by rfl, ?_⟩) (by assumption) ?_
        rotate_left
        · intro w hSw
          go_simp
          try (with_reducible rfl)
        try simp only [Act.put, List.setIfInBounds_toArray, List.set_cons_zero, List.set_cons_succ]
        refine wpAnyH_ready (rs := [9]) (by kernel_rfl) (by simp) ?_
        refine AllReadyH.cons rfl (fun K hK => ?_) AllReadyH.nil
        have yb := keep_cell b0 hN
        have zb2 := (keep_frozen b0 hN).trans (zb 0)
        have hN8 := hN
        go_simp
        refine hK.out _ _ ⟨by rw [World.cell?_setCell_far _ _ _ _ (by simpa using nbh)]; exact keep_cell f0 hN, by rw [World.cell?_setCell_far _ _ _ _ (by simpa using nbh)]; exact keep_cell f1 hN, by rw [World.cell?_setCell_far _ _ _ _ (by simpa using nbh)]; exact keep_cell f2 hN, by rw [World.cell?_setCell_far _ _ _ _ (by simpa using nbh)]; exact keep_cell f3 hN⟩ (fun hHeld => ?_)
        clear hK K
        refine wpAnyH_done (by kernel_rfl) ?_ _
        clear hHeld
        have hrow2 := heap_row HRB.out hN
        have s0 := set_row (i := 0) hrow2 (.slice va (1 + 1) vc)
        have jw0 : (w2.setCell ⟨b, 0, none⟩ (.slice va (1 + 1) vc)).cell? ⟨b, 0, none⟩ = some (.slice va (1 + 1) vc) := cell_row (cs := [.slice va (1 + 1) vc, .int .i64 0, .slice none 0 0, .int .i64 100, .int .i64 50]) (i := 0) s0 rfl
        have jw1 : (w2.setCell ⟨b, 0, none⟩ (.slice va (1 + 1) vc)).cell? ⟨b, 1, none⟩ = some (.int .i64 0) := cell_row (cs := [.slice va (1 + 1) vc, .int .i64 0, .slice none 0 0, .int .i64 100, .int .i64 50]) (i := 1) s0 rfl
        have jw2 : (w2.setCell ⟨b, 0, none⟩ (.slice va (1 + 1) vc)).cell? ⟨b, 2, none⟩ = some (.slice none 0 0) := cell_row (cs := [.slice va (1 + 1) vc, .int .i64 0, .slice none 0 0, .int .i64 100, .int .i64 50]) (i := 2) s0 rfl
        have jw3 : (w2.setCell ⟨b, 0, none⟩ (.slice va (1 + 1) vc)).cell? ⟨b, 3, none⟩ = some (.int .i64 100) := cell_row (cs := [.slice va (1 + 1) vc, .int .i64 0, .slice none 0 0, .int .i64 100, .int .i64 50]) (i := 3) s0 rfl
        have jw4 : (w2.setCell ⟨b, 0, none⟩ (.slice va (1 + 1) vc)).cell? ⟨b, 4, none⟩ = some (.int .i64 50) := cell_row (cs := [.slice va (1 + 1) vc, .int .i64 0, .slice none 0 0, .int .i64 100, .int .i64 50]) (i := 4) s0 rfl
        have HB := hide ((chain HBC.out hN).setCell (p := ⟨b, 0, none⟩) (by show w.heap.size ≤ b; omega) (.slice va (1 + 1) vc))
        have hc2 : (w2.setCell ⟨b, 0, none⟩ (.slice va (1 + 1) vc)).heap[c]? = _ := (Below.heap_setCell _ _ _ _ (by simpa using ncb)).trans (heap_row HRC.out hN)
        have hgr := grown_setCell w2 b 0 (.slice va (1 + 1) vc)
        have ho3 := ho2.kept hgr (own_ne ho2 (heap_row HRB.out hN) (by decide))
        have HJ := hide (job2 (cap := vc) (mn := 0) (fu := 100) (ta := 50) ho3 (reads_row (xs := [.int .i64 1, .int .i64 5, .int .i64 18, .int .i64 0]) hc2))
        have C := each_fin (want := 6) hE HB.out HJ.out (by simp) (fun g hg => by simp at hg; subst hg; exact ⟨by show 2 ≤ 1000000000; omega, by show fnm.size < _; decide⟩) each_r17
        simp only [JV.cells] at C
        clear hrow2 s0 hc2 hgr ho3 ho2 hg2 hb2 hN7 hN8 yb zb2 hcn hol
        go_wp2_with (first
          | (go_at_call 11; go_must (with_reducible refine C.mono ?_; (rintro e w9 ⟨r0, r1, rfl, hb9⟩)))
          | (go_at_call 13; go_must (with_reducible refine (NM _ _).mono ?_; (rintro e w10 ⟨rfl, hw10⟩); replace hw10 := hw10.symm; subst hw10)))
        go_ret
        exact ⟨rfl, hb9⟩
  have e17 : (x == 17) = false := by simp [k17]
  go_wp2
  go_ret
  exact ⟨rfl, HBC.out⟩
end Go.Proofs.YtfdgkeljnmamiaaDoor
