/- The document's own answers: Name, HasN, Pushes, Pops; the program's Pops. -/
import Derived.Test.YtnkfdpnommjlcaaGreatDoorKind
namespace Go.Proofs.YtnkfdpnommjlcaaGreatDoor
open Go.RowKit Go.ChangeShapes Go.WideShapes Go.ChangeAt Go.Deep

theorem ret_b {a b : Bool} (h : a = b) : Ending.returned (.bool a) = .returned (.bool b) := by rw [h]
theorem kind_no {op : Int} (h : ¬ (1 ≤ op ∧ op ≤ 19)) : kindOf op = noKind := by unfold kindOf; rw [if_neg h]
theorem kind_at {op : Int} (j : Nat) (k : Kind) (h : op = (j : Int)) (hj : 1 ≤ j ∧ j ≤ 19) (hk : kindT[j]? = some k) : kindOf op = k := by
  subst h
  unfold kindOf
  rw [if_pos (by omega)]
  simp [List.getD, hk]

theorem words_at (j : Nat) (hj : j < kindT.length) : ([.string ⟨#[]⟩, .string ⟨#[112, 117, 115, 104]⟩, .string ⟨#[112, 111, 112]⟩, .string ⟨#[100, 117, 112]⟩, .string ⟨#[115, 119, 97, 112]⟩, .string ⟨#[108, 111, 97, 100]⟩, .string ⟨#[115, 116, 111, 114, 101]⟩, .string ⟨#[97, 100, 100]⟩, .string ⟨#[115, 117, 98]⟩, .string ⟨#[109, 117, 108]⟩, .string ⟨#[100, 105, 118]⟩, .string ⟨#[109, 111, 100]⟩, .string ⟨#[108, 116]⟩, .string ⟨#[101, 113]⟩, .string ⟨#[106, 117, 109, 112]⟩, .string ⟨#[122, 101, 114, 111]⟩, .string ⟨#[115, 112, 97, 119, 110]⟩, .string ⟨#[97, 119, 97, 105, 116]⟩, .string ⟨#[114, 101, 116]⟩, .string ⟨#[102, 97, 105, 108]⟩] : List Value)[j]? = some (.string kindT[j].word) := by
  have e : ([.string ⟨#[]⟩, .string ⟨#[112, 117, 115, 104]⟩, .string ⟨#[112, 111, 112]⟩, .string ⟨#[100, 117, 112]⟩, .string ⟨#[115, 119, 97, 112]⟩, .string ⟨#[108, 111, 97, 100]⟩, .string ⟨#[115, 116, 111, 114, 101]⟩, .string ⟨#[97, 100, 100]⟩, .string ⟨#[115, 117, 98]⟩, .string ⟨#[109, 117, 108]⟩, .string ⟨#[100, 105, 118]⟩, .string ⟨#[109, 111, 100]⟩, .string ⟨#[108, 116]⟩, .string ⟨#[101, 113]⟩, .string ⟨#[106, 117, 109, 112]⟩, .string ⟨#[122, 101, 114, 111]⟩, .string ⟨#[115, 112, 97, 119, 110]⟩, .string ⟨#[97, 119, 97, 105, 116]⟩, .string ⟨#[114, 101, 116]⟩, .string ⟨#[102, 97, 105, 108]⟩] : List Value) = kindT.map fun k => Value.string k.word := rfl
  rw [e, List.getElem?_map, List.getElem?_eq_getElem hj]
  rfl

set_option maxRecDepth 100000 in
set_option maxHeartbeats 1000000 in
theorem refName_any (op : Int) (w : World) : Calls Tryz.prog 93 #[.int .i64 op] w fun e w' => e = .returned (.string (kindOf op).word) ∧ Below w.heap.size w w' := by
  by_cases h1 : 1 ≤ op
  · by_cases h2 : op ≤ 19
    · obtain ⟨j, rfl⟩ : ∃ j : Nat, op = (j : Int) := ⟨op.toNat, by omega⟩
      have hj : j < kindT.length := by show j < 20; omega
      have e : kindOf (j : Int) = kindT[j] := kind_at j _ rfl (by omega) (List.getElem?_eq_getElem hj)
      have hc := words_at j hj
      rw [e]
      clear e
      generalize kindT[j].word = s at hc ⊢
      go_enter Tryz.func93, Tryz.ntmps93
      go_wp2
      go_ret
      exact ⟨rfl, (Below.refl _ _).alloc (Nat.le_refl _) _⟩
    · rw [kind_no (by omega)]
      go_enter Tryz.func93, Tryz.ntmps93
      go_wp2
      go_ret
      exact ⟨rfl, (Below.refl _ _).alloc (Nat.le_refl _) _⟩
  · rw [kind_no (by omega)]
    go_enter Tryz.func93, Tryz.ntmps93
    go_wp2
    go_ret
    exact ⟨rfl, (Below.refl _ _).alloc (Nat.le_refl _) _⟩

theorem kind_fin {p : Int → Kind → Prop} (op : Int) (h : ∀ j : Fin 20, 1 ≤ j.1 → p (j.1 : Int) (kindOf (j.1 : Int))) (h0 : ¬ (1 ≤ op ∧ op ≤ 19) → p op noKind) : p op (kindOf op) := by
  by_cases hj : 1 ≤ op ∧ op ≤ 19
  · obtain ⟨j, rfl⟩ : ∃ j : Nat, op = (j : Int) := ⟨op.toNat, by omega⟩
    exact h ⟨j, by omega⟩ (by show 1 ≤ j; omega)
  · rw [kind_no hj]; exact h0 hj

theorem hasN_spec (op : Int) : (kindOf op).hasN = true ↔ op = 1 ∨ op = 5 ∨ op = 6 ∨ op = 14 ∨ op = 15 ∨ op = 16 :=
  kind_fin (p := fun op k => k.hasN = true ↔ op = 1 ∨ op = 5 ∨ op = 6 ∨ op = 14 ∨ op = 15 ∨ op = 16) op (by decide +kernel) (fun h => by simp [noKind]; omega)
theorem pushes_spec (op : Int) : (kindOf op).pushes = if op = 1 ∨ op = 5 ∨ (7 ≤ op ∧ op ≤ 13) ∨ op = 16 ∨ op = 17 then 1 else if op = 3 ∨ op = 4 then 2 else 0 :=
  kind_fin (p := fun op k => k.pushes = if op = 1 ∨ op = 5 ∨ (7 ≤ op ∧ op ≤ 13) ∨ op = 16 ∨ op = 17 then 1 else if op = 3 ∨ op = 4 then 2 else 0) op (by decide +kernel) (fun h => by rw [if_neg (by omega), if_neg (by omega)]; rfl)
theorem pops_spec (op : Int) : (kindOf op).pops = if op = 2 ∨ op = 3 ∨ op = 6 ∨ op = 15 ∨ op = 17 ∨ op = 18 ∨ op = 19 then 1 else if op = 4 ∨ (7 ≤ op ∧ op ≤ 13) then 2 else 0 :=
  kind_fin (p := fun op k => k.pops = if op = 2 ∨ op = 3 ∨ op = 6 ∨ op = 15 ∨ op = 17 ∨ op = 18 ∨ op = 19 then 1 else if op = 4 ∨ (7 ≤ op ∧ op ≤ 13) then 2 else 0) op (by decide +kernel) (fun h => by rw [if_neg (by omega), if_neg (by omega)]; rfl)
theorem word_spec (op : Int) : (kindOf op).word = ⟨#[]⟩ ↔ ¬ (1 ≤ op ∧ op ≤ 19) := by
  refine kind_fin (p := fun op k => k.word = ⟨#[]⟩ ↔ ¬ (1 ≤ op ∧ op ≤ 19)) op (by decide +kernel) (fun h => by simp [noKind]; omega)

set_option maxRecDepth 100000 in
set_option maxHeartbeats 1000000 in
theorem refHasN_any (op : Int) (w : World) : Calls Tryz.prog 92 #[.int .i64 op] w fun e w' => e = .returned (.bool (kindOf op).hasN) ∧ w' = w := by
  have hs := hide (hasN_spec op)
  generalize (kindOf op).hasN = k at hs ⊢
  go_enter Tryz.func92, Tryz.ntmps92
  go_wp2
  all_goals
    go_ret
    refine ⟨ret_b ?_, rfl⟩
    rw [Bool.eq_iff_iff, hs.out]
    simp
    try omega

set_option maxRecDepth 100000 in
set_option maxHeartbeats 1000000 in
theorem refPushes_any (op n : Int) (w : World) : Calls Tryz.prog 55 #[.agg #[.int .i64 op, .int .i64 n]] w fun e w' => e = .returned (.int .i64 (kindOf op).pushes) ∧ Below w.heap.size w w' := by
  have hs := hide (pushes_spec op)
  generalize (kindOf op).pushes = k at hs ⊢
  go_enter Tryz.func55, Tryz.ntmps55
  go_wp2
  all_goals
    go_ret
    refine ⟨ret_int ?_, (Below.refl _ _).alloc (Nat.le_refl _) _⟩
    have h := hs.out
    try simp only [beq_iff_eq, beq_eq_false_iff_ne] at *
    split at h <;> (try split at h) <;> omega

/-- The Args of functions, as they are read. -/
def AReads (w : World) (a : Option Addr) (ns : List Int) : Prop := ns = [] ∨ ∃ b off, a = some ⟨b, off, none⟩ ∧ ∀ j n, ns[j]? = some n → w.cell? ⟨b, off + j * 4 + 1, none⟩ = some (.int .i64 n)
theorem AReads.below {w w' : World} {a : Option Addr} {ns : List Int} (h : AReads w a ns) (hb : Below w.heap.size w w') : AReads w' a ns := by
  rcases h with rfl | ⟨b, off, rfl, h⟩
  · exact .inl rfl
  · exact .inr ⟨b, off, rfl, fun j u hu => by rw [hb.cell (cell_some_lt (h j u hu))]; exact h j u hu⟩
theorem AReads.get {w : World} {a : Option Addr} {ns : List Int} (h : AReads w a ns) {j : Nat} (hj : j < ns.length) : ∃ b off, a = some ⟨b, off, none⟩ ∧ w.cell? ⟨b, off + j * 4 + 1, none⟩ = some (.int .i64 ns[j]) := by
  rcases h with rfl | ⟨b, off, rfl, h⟩
  · simp at hj
  · exact ⟨b, off, rfl, h j _ (List.getElem?_eq_getElem hj)⟩
/-- How many arguments function n has. -/
def argsOf (n : Int) (ns : List Int) : Int := if 0 ≤ n ∧ n < (ns.length : Int) then ns.getD n.toNat 0 else 0
def popsOf (op n : Int) (ns : List Int) : Int := if op = 16 then argsOf n ns else (kindOf op).pops

theorem argsOf_at {n : Int} {ns : List Int} (h0 : 0 ≤ n) (h : n < (ns.length : Int)) : ∃ j : Nat, n = (j : Int) ∧ ∃ hj : j < ns.length, argsOf n ns = ns[j] := by
  refine ⟨n.toNat, by omega, by omega, ?_⟩
  unfold argsOf
  rw [if_pos ⟨h0, h⟩]
  simp [show n.toNat < ns.length by omega]
theorem argsOf_no {n : Int} {ns : List Int} (h : ¬ (0 ≤ n ∧ n < (ns.length : Int))) : argsOf n ns = 0 := by unfold argsOf; rw [if_neg h]

set_option maxRecDepth 100000 in
set_option maxHeartbeats 1000000 in
theorem argsOf_any (n : Int) (a : Option Addr) (len cap : Nat) (ns : List Int) (w : World) (hl : ns.length = len) (hr : AReads w a ns) :
    Calls Tryz.prog 112 #[.int .i64 n, .slice a len cap] w fun e w' => e = .returned (.int .i64 (argsOf n ns)) ∧ w' = w := by
  by_cases h0 : 0 ≤ n
  · by_cases h1 : n < (len : Int)
    · obtain ⟨j, rfl, hj, e⟩ := argsOf_at h0 (by omega : n < (ns.length : Int))
      obtain ⟨b, off, rfl, hc⟩ := hr.get hj
      rw [e]
      clear e
      generalize ns[j] = x at hc ⊢
      go_enter Tryz.func112, Tryz.ntmps112
      go_wp2
      go_ret
      exact ⟨rfl, rfl⟩
    · rw [argsOf_no (by omega)]
      go_enter Tryz.func112, Tryz.ntmps112
      go_wp2
      go_ret
      exact ⟨rfl, rfl⟩
  · rw [argsOf_no (by omega)]
    go_enter Tryz.func112, Tryz.ntmps112
    go_wp2
    go_ret
    exact ⟨rfl, rfl⟩

theorem below_box {w w1 : World} {o : Obj} (h : Below (w.alloc o).heap.size (w.alloc o) w1) : Below w.heap.size w w1 := ((Below.refl _ _).alloc (Nat.le_refl _) o).trans (h.mono (by simp))

set_option maxRecDepth 100000 in
set_option maxHeartbeats 1000000 in
theorem pops_any (op n : Int) (a : Option Addr) (len cap : Nat) (ns : List Int) (w : World) (hT : Tab w) (hl : ns.length = len) (hr : AReads w a ns) :
    Calls Tryz.prog 104 #[.agg #[.int .i64 op, .int .i64 n], .slice a len cap] w fun e w' => e = .returned (.int .i64 (popsOf op n ns)) ∧ Below w.heap.size w w' := by
  have hb : Below w.heap.size w (w.alloc (.cells #[.int .i64 op, .int .i64 n] 55)) := (Below.refl _ _).alloc (Nat.le_refl _) _
  by_cases h : op = 16
  · subst h
    have C := argsOf_any n a len cap ns _ hl (hr.below hb)
    rw [show popsOf 16 n ns = argsOf n ns from if_pos rfl]
    generalize argsOf n ns = x at C ⊢
    go_enter Tryz.func104, Tryz.ntmps104
    go_wp2_with (go_at_call 112; go_must (refine C.mono ?_; rintro e w1 ⟨rfl, rfl⟩))
    go_ret
    exact ⟨rfl, hb⟩
  · have C := kindOf_any op (w.alloc (.cells #[.int .i64 op, .int .i64 n] 55)) (hT.below hb)
    have kf := run_field2
    rw [show popsOf op n ns = (kindOf op).pops from if_neg h]
    generalize kindOf op = k at C ⊢
    go_enter Tryz.func104, Tryz.ntmps104
    go_wp2_with (go_at_call 110; go_must (refine C.mono ?_; rintro e w1 ⟨rfl, hb1⟩))
    go_ret
    exact ⟨rfl, below_box hb1⟩

theorem popsOf_rest {op n : Int} {ns : List Int} (h1 : ¬ (op = 2 ∨ op = 3 ∨ op = 6 ∨ op = 15 ∨ op = 17 ∨ op = 18 ∨ op = 19)) (h2 : ¬ (op = 4 ∨ (7 ≤ op ∧ op ≤ 13))) (h3 : ¬ (op = 16 ∧ 0 ≤ n ∧ n < (ns.length : Int))) : popsOf op n ns = 0 := by
  unfold popsOf
  by_cases h : op = 16
  · rw [if_pos h, argsOf_no (by omega)]
  · rw [if_neg h, pops_spec, if_neg h1, if_neg h2]
theorem popsOf_one {op n : Int} {ns : List Int} (h1 : op = 2 ∨ op = 3 ∨ op = 6 ∨ op = 15 ∨ op = 17 ∨ op = 18 ∨ op = 19) : popsOf op n ns = 1 := by
  unfold popsOf
  rw [if_neg (by omega), pops_spec, if_pos h1]
theorem popsOf_two {op n : Int} {ns : List Int} (h2 : op = 4 ∨ (7 ≤ op ∧ op ≤ 13)) : popsOf op n ns = 2 := by
  unfold popsOf
  rw [if_neg (by omega), pops_spec, if_neg (by omega), if_pos h2]

set_option maxRecDepth 100000 in
set_option maxHeartbeats 1000000 in
theorem refPops_any (op n : Int) (a : Option Addr) (len cap : Nat) (ns : List Int) (w : World) (hl : ns.length = len) (hr : AReads w a ns) :
    Calls Tryz.prog 54 #[.agg #[.int .i64 op, .int .i64 n], .slice a len cap] w fun e w' => e = .returned (.int .i64 (popsOf op n ns)) ∧ Below w.heap.size w w' := by
  have hb : Below w.heap.size w (w.alloc (.cells #[.int .i64 op, .int .i64 n] 55)) := (Below.refl _ _).alloc (Nat.le_refl _) _
  by_cases h3 : op = 16 ∧ 0 ≤ n ∧ n < (ns.length : Int)
  · obtain ⟨rfl, h0, h1⟩ := h3
    obtain ⟨j, rfl, hj, e⟩ := argsOf_at h0 h1
    obtain ⟨b, off, rfl, hc0⟩ := hr.get hj
    have hc := cell_some_lt hc0
    rw [show popsOf 16 j ns = ns[j] from (if_pos rfl).trans e]
    clear e
    generalize ns[j] = x at hc0 ⊢
    go_enter Tryz.func54, Tryz.ntmps54
    go_wp2
    go_ret
    exact ⟨rfl, hb⟩
  · by_cases h1 : op = 2 ∨ op = 3 ∨ op = 6 ∨ op = 15 ∨ op = 17 ∨ op = 18 ∨ op = 19
    · rw [popsOf_one h1]
      rcases h1 with rfl | rfl | rfl | rfl | rfl | rfl | rfl <;> (go_enter Tryz.func54, Tryz.ntmps54; go_wp2; go_ret; exact ⟨rfl, hb⟩)
    · by_cases h2 : op = 4 ∨ (7 ≤ op ∧ op ≤ 13)
      · rw [popsOf_two h2]
        go_enter Tryz.func54, Tryz.ntmps54
        go_wp2
        all_goals (go_ret; first | exact ⟨rfl, (Below.refl _ _).alloc (Nat.le_refl _) _⟩ | (exfalso; simp only [beq_iff_eq] at *; omega))
      · rw [popsOf_rest h1 h2 h3]
        go_enter Tryz.func54, Tryz.ntmps54
        go_wp2
        all_goals (go_ret; first | exact ⟨rfl, (Below.refl _ _).alloc (Nat.le_refl _) _⟩ | (exfalso; simp only [beq_iff_eq, beq_eq_false_iff_ne] at *; omega))
end Go.Proofs.YtnkfdpnommjlcaaGreatDoor
