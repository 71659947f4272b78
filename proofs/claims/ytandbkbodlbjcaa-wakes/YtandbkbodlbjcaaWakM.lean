/- TableWakes: what stands, plain. -/
import Derived.Test.YtandbkbodlbjcaaPkd
import Derived.Test.YtandbkbodlbjcaaEndM
namespace Go.Proofs.Ytandbkbodlbjcaa
open Go.RowKit Go.ChangeShapes Go.WideShapes Go.ChangeAt Go.Deep Go.Maps Go.Sort
namespace tableWakes

/-- A name of one byte. -/
def idW (j : Nat) : ByteArray := ⟨#[j.toUInt8]⟩
theorem idW_size (j : Nat) : (idW j).size = 1 := rfl
theorem idW_valid {j : Nat} (h : j < 16) : validL (idW j).data.toList = true := by
  rw [valid_iff]
  refine ⟨by simp [idW], fun c hc => ?_⟩
  simp [idW] at hc
  subst hc
  rw [UInt8.toNat_ofNat']; omega
theorem idW_inj {i j : Nat} (hi : i < 256) (hj : j < 256) (h : idW i = idW j) : i = j := by
  have h1 : (idW i).data.toList = (idW j).data.toList := by rw [h]
  simp [idW] at h1
  have e1 := congrArg UInt8.toNat h1
  rw [UInt8.toNat_ofNat', UInt8.toNat_ofNat'] at e1
  omega
theorem idW_lt {i j : Nat} (hj : j < 256) (h : i < j) : ltB (idW i) (idW j) := by
  unfold ltB
  simp only [idW]
  rw [List.cons_lt_cons_iff]
  left
  rw [UInt8.lt_iff_toNat_lt, UInt8.toNat_ofNat', UInt8.toNat_ofNat']
  omega
theorem conv1 (x : Nat) (w : World) : (convert 63 31 (.slice (some ⟨w.heap.size, 0, none⟩) 1 1)).run Try.prog (w.alloc (.cells #[.int .u8 (x : Nat)] 5)) = .ok (.string (idW x)) (w.alloc (.cells #[.int .u8 (x : Nat)] 5)) := by
  have h := run_convert_bytes_arg (w.alloc (.cells #[.int .u8 (x : Nat)] 5)) 63 5 Try.underlying63 Try.underlying5 w.heap.size 0 1 1 [(x : Int)] rfl (fun i hi => by
    rw [World.cell?_alloc_at _ _ _ _ rfl]
    obtain rfl : i = 0 := by omega
    rfl) 31 Try.underlying31
  have e : strOfNums [(x : Int)] = idW x := by
    apply bytes_inj
    simp [strOfNums, idW]
  rw [e] at h
  exact h

/-- Who waits for what: K. -/
def prkW (K : Nat → Nat) (i : Nat) : Pk := (List.range i).map fun j => (idW j, idB 15 (K j))
def alW (i : Nat) : List ByteArray := (List.range i).reverse.map idW
def TW (K : Nat → Nat) (i : Nat) : Tb := ⟨[], [], prkW K i, alW i, 20, i⟩
def wantW (K : Nat → Nat) (wk : Nat) (i : Nat) : List ByteArray := ((List.range i).filter fun j => decide (K j = wk)).map idW

theorem alW_succ (i : Nat) : alW (i + 1) = idW i :: alW i := by simp [alW, List.range_succ]
theorem prkW_succ (K : Nat → Nat) (i : Nat) : prkW K (i + 1) = prkW K i ++ [(idW i, idB 15 (K i))] := by simp [prkW, List.range_succ]
theorem wantW_succ (K : Nat → Nat) (wk i : Nat) : wantW K wk (i + 1) = if K i = wk then wantW K wk i ++ [idW i] else wantW K wk i := by
  unfold wantW
  rw [List.range_succ, List.filter_append]
  by_cases h : K i = wk
  · simp [h]
  · simp [h]
theorem al_len (i : Nat) : (alW i).length = i := by simp [alW]
theorem prk_len (K : Nat → Nat) (i : Nat) : (prkW K i).length = i := by simp [prkW]
theorem al_fresh {i : Nat} (h : i < 256) : idW i ∉ alW i := fun hm => by
  simp only [alW, List.mem_map, List.mem_reverse, List.mem_range] at hm
  obtain ⟨j, hj, e⟩ := hm
  have := idW_inj (by omega) h e
  omega

theorem addW (K : Nat → Nat) {i : Nat} (h : i < 16) : addT (TW K i) (idW i) = (0, ⟨[idW i], [], prkW K i, alW (i + 1), 20, i⟩) := by
  unfold addT
  rw [if_neg, if_neg]
  · rw [alW_succ]; rfl
  · show ¬ ((20 : Int) ≤ ((alW i).length : Int) ∧ _)
    rw [al_len]; omega
  · rw [idW_valid h, show (TW K i).al = alW i from rfl, inB_no.2 (al_fresh (by omega))]; simp
theorem parkW (K : Nat → Nat) {i : Nat} (_h : i < 16) (hk : K i < 16) : parkT ⟨[], [idW i], prkW K i, alW (i + 1), 20, i⟩ (idW i) (idB 15 (K i)) = (true, TW K (i + 1)) := by
  unfold parkT
  rw [if_neg (by rw [idB_valid (by omega) hk]; simp), if_pos (inB_iff.2 (by simp))]
  unfold TW
  rw [prkW_succ]
  simp [del]

theorem kidsW (K : Nat → Nat) (wk i : Nat) (hK : ∀ j, K j < 16) (hw : wk < 16) : kids (prkW K i) (idB 15 wk) = wantW K wk i := by
  unfold kids prkW wantW
  rw [List.filter_map, List.map_map]
  congr 1
  apply List.filter_congr
  intro j _
  have := hK j
  simp only [Function.comp]
  by_cases e : K j = wk
  · simp [e]
  · have : ¬ idB 15 (K j) = idB 15 wk := fun h => e (idB_inj (by omega) (by omega) (by omega) (by omega) h).2
    simp [this, e]
theorem range_rise {l : List Nat} (h : l.Pairwise (· < ·)) (hb : ∀ j ∈ l, j < 256) : (l.map idW).Pairwise ltB := by
  rw [List.pairwise_map]
  refine List.Pairwise.imp_of_mem (fun {a b} ha hb' hab => idW_lt (hb b hb') hab) h
theorem want_rise (K : Nat → Nat) (wk : Nat) {i : Nat} (h : i ≤ 16) : (wantW K wk i).Pairwise ltB :=
  range_rise (List.Pairwise.filter _ List.pairwise_lt_range) (fun j hj => by
    have := (List.mem_filter.1 hj).1
    rw [List.mem_range] at this; omega)
theorem rest_names (K : Nat → Nat) (x : ByteArray) {i : Nat} (h : i ≤ 16) : ((rest1 (prkW K i) x).map Prod.fst).Pairwise ltB := by
  unfold rest1 prkW
  rw [List.filter_map, List.map_map]
  exact range_rise (List.Pairwise.filter _ List.pairwise_lt_range) (fun j hj => by
    have := (List.mem_filter.1 hj).1
    rw [List.mem_range] at this; omega)
theorem want_len (K : Nat → Nat) (wk i : Nat) : (wantW K wk i).length ≤ i := by
  unfold wantW
  rw [List.length_map]
  exact Nat.le_trans (List.length_filter_le _ _) (by simp)

theorem wake_at {κ : Cl} {w : World} {cb : Nat} {T : Tb} (h : TabM κ w cb T) (on : ByteArray) (hon : on.size ≤ 1000000) (hp : T.prk.length ≤ 1000) (hr : T.rdy.length ≤ 10000) :
    Calls Try.prog 19 #[.pointer (some ⟨cb, 0, none⟩), .slice (some ⟨w.heap.size, 0, none⟩) 1 1] (w.alloc (.cells #[.string on] 31)) (WakeP κ (w.alloc (.cells #[.string on] 31)) cb T (kids T.prk on) (rest1 T.prk on)) := by
  have := wake_any (h.below (below_new w (.cells #[.string on] 31))) [on] (some ⟨w.heap.size, 0, none⟩) 1 (reads_new w [.string on] 31) (fun a0 e _ => by
    cases e
    cases hc : κ w.heap.size with
    | none => rfl
    | some t => have := h.1 w.heap.size (by rw [hc]; simp); omega) (by simp) (fun x hx => by simp at hx; subst hx; exact hon) hp hr
  have e : leaveL T.prk [on] = (kids T.prk on, rest1 T.prk on) := by simp [leaveL, leaveS]
  rw [e] at this
  exact this

/-- The table behind the first Wake. -/
def TV (K : Nat → Nat) (wk i : Nat) : Tb := ⟨wantW K wk i, [], rest1 (prkW K i) (idB 15 wk), alW i, 20, i⟩
theorem wake_first {κ : Cl} {w : World} {cb i wk n : Nat} {K : Nat → Nat} (h : TabM κ w cb (TW K i)) (hi : i ≤ 16) (hK : ∀ j, K j < 16) (hw : wk < 16) (hn : (wantW K wk i).length = n) :
    Calls Try.prog 19 #[.pointer (some ⟨cb, 0, none⟩), .slice (some ⟨w.heap.size, 0, none⟩) 1 1] (w.alloc (.cells #[.string (idB 15 wk)] 31)) fun e w' => ∃ a c κ', e = .returned (.slice a n c) ∧ RN w' a n c (wantW K wk i) ∧ TabM κ' w' cb (TV K wk i) ∧ Stp κ κ' (w.alloc (.cells #[.string (idB 15 wk)] 31)) w' := by
  refine (wake_at h (idB 15 wk) (by rw [idB_size]; omega) (by show (prkW K i).length ≤ _; rw [prk_len]; omega) (by show 0 ≤ _; omega)).mono ?_
  rintro e w' ⟨a, c, R, κ', rfl, h1, h2, h3, h4, h5, h6, h7⟩
  have hR : R = wantW K wk i := rise_unique _ _ h3 (want_rise K wk hi) (fun x => by rw [h4 x]; show x ∈ kids (prkW K i) (idB 15 wk) ↔ _; rw [kidsW K wk i hK hw])
  subst hR
  rw [hn] at h1 ⊢
  exact ⟨a, c, κ', rfl, h1, h6, h7⟩
theorem wake_second {κ : Cl} {w : World} {cb i wk : Nat} {K : Nat → Nat} (h : TabM κ w cb (TV K wk i)) (hi : i ≤ 16) :
    Calls Try.prog 19 #[.pointer (some ⟨cb, 0, none⟩), .slice (some ⟨w.heap.size, 0, none⟩) 1 1] (w.alloc (.cells #[.string (idB 15 wk)] 31)) fun e w' => ∃ a c κ' T', e = .returned (.slice a 0 c) ∧ TabM κ' w' cb T' ∧ Stp κ κ' (w.alloc (.cells #[.string (idB 15 wk)] 31)) w' := by
  have hl : (rest1 (prkW K i) (idB 15 wk)).length ≤ i := Nat.le_trans (List.length_filter_le _ _) (by rw [prk_len]; exact Nat.le_refl _)
  refine (wake_at h (idB 15 wk) (by rw [idB_size]; omega) (by show (rest1 (prkW K i) (idB 15 wk)).length ≤ _; omega) (by show (wantW K wk i).length ≤ _; have := want_len K wk i; omega)).mono ?_
  rintro e w' ⟨a, c, R, κ', rfl, h1, h2, h3, h4, h5, h6, h7⟩
  have hR : R = [] := List.eq_nil_iff_forall_not_mem.2 (fun x hx => by
    have := (h4 x).1 hx
    rw [show (TV K wk i).prk = rest1 (prkW K i) (idB 15 wk) from rfl, kids_rest_same] at this
    cases this)
  subst hR
  exact ⟨a, c, κ', _, rfl, h6, h7⟩
theorem parked_len {κ : Cl} {w : World} {cb i wk n : Nat} {K : Nat → Nat} (h : TabM κ w cb (TV K wk i)) (hi : i ≤ 16) (hK : ∀ j, K j < 16) (hw : wk < 16) (hn : (wantW K wk i).length = n) :
    Calls Try.prog 28 #[.pointer (some ⟨cb, 2, none⟩)] w fun e w' => ∃ a c, e = .returned (.slice a (i - n) c) ∧ Below w.heap.size w w' := by
  have hl := leave_len (prkW K i) (idB 15 wk)
  rw [kidsW K wk i hK hw, hn, prk_len] at hl
  refine (parked_any h (by show (rest1 (prkW K i) (idB 15 wk)).length ≤ _; omega)).mono ?_
  rintro e w' ⟨v, R, rfl, h1, h2, h3, h4, h5⟩
  have hR : R = (rest1 (prkW K i) (idB 15 wk)).map Prod.fst := rise_unique _ _ h2 (rest_names K _ hi) (fun x => by rw [h3 x, List.mem_map]; rfl)
  have hRl : R.length = i - n := by rw [hR, List.length_map]; omega
  obtain ⟨a, c, rfl, _, _⟩ := own_formS h1
  rw [hRl]
  exact ⟨a, c, rfl, h5⟩
end tableWakes
end Go.Proofs.Ytandbkbodlbjcaa
