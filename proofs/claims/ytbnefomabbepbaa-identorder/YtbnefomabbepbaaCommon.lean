/- Common: the longest name that all begin with; the code's and the document's own. -/
import Derived.Test.YtbnefomabbepbaaUp2
namespace Go.Proofs.Ytbnefomabbepbaa
open Go.RowKit Go.ChangeShapes Go.WideShapes Go.ChangeAt Go.Deep

/-- How many bytes two lists both begin with. -/
def alikeN : List UInt8 → List UInt8 → Nat
  | x :: xs, y :: ys => if x = y then alikeN xs ys + 1 else 0
  | _, _ => 0
theorem alike_le : ∀ a b : List UInt8, alikeN a b ≤ a.length ∧ alikeN a b ≤ b.length
  | [], _ => by simp [alikeN]
  | _ :: _, [] => by simp [alikeN]
  | x :: xs, y :: ys => by
    unfold alikeN
    have := alike_le xs ys
    split <;> simp <;> omega
theorem alike_is : ∀ (a b : List UInt8) (k : Nat), k ≤ a.length → k ≤ b.length → (∀ j, j < k → a[j]? = b[j]?) → (k = a.length ∨ k = b.length ∨ a[k]? ≠ b[k]?) → alikeN a b = k
  | [], b, k, h1, _, _, _ => by simp at h1; subst h1; cases b <;> simp [alikeN]
  | _ :: _, [], k, _, h2, _, _ => by simp at h2; subst h2; simp [alikeN]
  | x :: xs, y :: ys, 0, _, _, _, h => by
    unfold alikeN
    rcases h with h | h | h
    · simp at h
    · simp at h
    · simp at h; rw [if_neg h]
  | x :: xs, y :: ys, k + 1, h1, h2, h3, h4 => by
    unfold alikeN
    have e := h3 0 (by omega)
    simp at e
    rw [if_pos e, alike_is xs ys k (by simpa using h1) (by simpa using h2) (fun j hj => by simpa using h3 (j + 1) (by omega)) (by simpa using h4)]
theorem alike_take (a b : List UInt8) : a.take (alikeN a b) = b.take (alikeN a b) := by
  induction a generalizing b with
  | nil => simp [alikeN]
  | cons x xs ih =>
    cases b with
    | nil => simp [alikeN]
    | cons y ys =>
      unfold alikeN
      by_cases h : x = y
      · rw [if_pos h, h]; simp [ih ys]
      · rw [if_neg h]; simp
def alikeB (a b : ByteArray) : Nat := alikeN a.data.toList b.data.toList
theorem alikeB_le (a b : ByteArray) : alikeB a b ≤ a.size ∧ alikeB a b ≤ b.size := by
  rw [Lib.size_eq, Lib.size_eq]; exact alike_le _ _

theorem at_some {s : ByteArray} {k : Nat} (h : k < s.size) : ∃ x, s.data.toList[k]? = some x := ⟨s.data.toList[k]'(by rw [← Lib.size_eq]; exact h), List.getElem?_eq_getElem _⟩

set_option maxRecDepth 100000 in
set_option maxHeartbeats 1000000 in
theorem alike_any (a b : ByteArray) (ha : a.size ≤ 1000000000) (hb : b.size ≤ 1000000000) (w : World) : Calls Try.prog 30 #[.string a, .string b] w fun e w' => e = .returned (.int .i64 (alikeB a b : Nat)) ∧ Below w.heap.size w w' := by
  have HSA := hide (Lib.size_eq a)
  have HSB := hide (Lib.size_eq b)
  obtain ⟨m, hm⟩ : ∃ m : Nat, m = min a.size b.size := ⟨_, rfl⟩
  have hm' : (min (a.size : Int) (b.size : Int)) = (m : Int) := by omega
  have HM := hide hm
  have hml : m ≤ 1000000000 := by omega
  clear hm
  go_enter Try.func30, Try.ntmps30
  go_wp2
  go_loopw [13] (fun i wr => Below w.heap.size w wr ∧ ∃ k : Nat, k ≤ m ∧ i = .int .i64 (k : Nat) ∧ Hid (∀ j, j < k → a.data.toList[j]? = b.data.toList[j]?)) (fun i _ => m - (intOf i).toNat)
  case atStart => exact ⟨Below.refl _ _, 0, by omega, rfl, fun j hj => by omega⟩
  case round =>
    obtain ⟨hbw, k, hk, rfl, hh⟩ := hrel
    have HB := hide hbw
    by_cases hlt : k < m
    · have hlt' : (k : Int) < (m : Int) := by omega
      have hmm := HM.out
      obtain ⟨x, hx⟩ := at_some (s := a) (k := k) (by omega)
      obtain ⟨y, hy⟩ := at_some (s := b) (k := k) (by omega)
      have ia := fun w => index_str (kd := .i64) (t := 22) Try.underlying22 (s := a) (j := k) hx w
      have ib := fun w => index_str (kd := .i64) (t := 22) Try.underlying22 (s := b) (j := k) hy w
      have HX := hide hx
      have HY := hide hy
      by_cases hxy : x = y
      · have HN := hide (show ∀ j, j < k + 1 → a.data.toList[j]? = b.data.toList[j]? from fun j hj => by
          rcases Nat.lt_or_ge j k with h | h
          · exact hh.out j h
          · have : j = k := by omega
            subst this
            rw [HX.out, HY.out, hxy])
        subst hxy
        clear hx hy hmm hbw
        go_wp2_with fail
        go_quiet (fail)
        go_wp2
        go_roundw
        case rel => exact ⟨below_drewN HB.out _, k + 1, by omega, by go_num, HN⟩
        case measure => simp [intOf]; omega
      · have hne : ((x.toNat : Int) == (y.toNat : Int)) = false := by
          rw [beq_eq_false_iff_ne]
          intro h
          exact hxy (UInt8.toNat_inj.1 (by omega))
        have HR := hide (show alikeB a b = k from alike_is _ _ k (by rw [← HSA.out]; omega) (by rw [← HSB.out]; omega) hh.out (.inr (.inr (by rw [HX.out, HY.out]; intro h; exact hxy (Option.some.inj h)))))
        clear hx hy hmm hbw hxy
        go_wp2_with fail
        go_quiet (fail)
        go_wp2
        go_ret
        exact ⟨by rw [HR.out]; rfl, below_drewN HB.out _⟩
    · have hlt' : ¬ (k : Int) < (m : Int) := by omega
      have HR := hide (show alikeB a b = m from alike_is _ _ m (by rw [← HSA.out]; have := HM.out; omega) (by rw [← HSB.out]; have := HM.out; omega) (fun j hj => hh.out j (by omega)) (by rw [← HSA.out, ← HSB.out]; have := HM.out; omega))
      clear hbw
      go_wp2
      go_ret
      exact ⟨by rw [HR.out]; rfl, HB.out⟩

/-- Names, as values. -/
def nV (l : List ByteArray) : List Value := l.map Value.string
/-- The longest name that all begin with. -/
def foldB (c : ByteArray) (l : List ByteArray) : ByteArray := l.foldl (fun c x => c.extract 0 (alikeB c x)) c
def commonB : List ByteArray → ByteArray
  | [] => ⟨#[]⟩
  | a :: r => foldB a r
theorem extract_size (c : ByteArray) (k : Nat) : (c.extract 0 k).size ≤ c.size := by
  rw [extract_bs, bs_size, Lib.size_eq]; simp; omega
theorem fold_size (c : ByteArray) (l : List ByteArray) : (foldB c l).size ≤ c.size := by
  induction l generalizing c with
  | nil => exact Nat.le_refl _
  | cons x r ih => exact Nat.le_trans (ih _) (extract_size _ _)
theorem fold_next {c : ByteArray} {r : List ByteArray} {k : Nat} {x : ByteArray} (h : r[k]? = some x) : foldB c (r.take (k + 1)) = (foldB c (r.take k)).extract 0 (alikeB (foldB c (r.take k)) x) := by
  rw [List.take_add_one, h]
  unfold foldB
  rw [List.foldl_append]
  rfl
theorem reads_nV {w : World} {a : Option Addr} {l : List ByteArray} {k : Nat} {x : ByteArray} (h : Reads w a (nV l)) (hk : l[k]? = some x) : ∃ b off, a = some ⟨b, off, none⟩ ∧ Hid (∀ j y, l[j]? = some y → w.cell? ⟨b, off + j, none⟩ = some (.string y)) := by
  rcases h with h | ⟨b, off, e, h⟩
  · have : l = [] := by simpa [nV] using h
    subst this; simp at hk
  · exact ⟨b, off, e, fun j y hy => h j _ (by simp [nV, hy])⟩

set_option maxRecDepth 100000 in
set_option maxHeartbeats 1000000 in
theorem common_any (L : List ByteArray) (ad : Option Addr) (cap : Nat) (w : World) (hr : Reads w ad (nV L)) (hcap : L.length ≤ cap) (hcm : cap ≤ maxLen) (hsz : ∀ s ∈ L, s.size ≤ 1000000000) :
    Calls Try.prog 21 #[.slice ad L.length cap] w fun e w' => e = .returned (.string (commonB L)) ∧ Below w.heap.size w w' := by
  unfold maxLen at hcm
  cases L with
  | nil =>
    go_enter Try.func21, Try.ntmps21
    go_wp2
    go_ret
    exact ⟨rfl, Below.refl _ _⟩
  | cons c r =>
    obtain ⟨b, off, rfl, hcell⟩ := reads_nV (k := 0) (x := c) hr rfl
    have c0 : w.cell? ⟨b, off, none⟩ = some (.string c) := by simpa using hcell.out 0 c rfl
    have HSZ := hide hsz
    have hcz := hsz c (by simp)
    have A := fun (s : ByteArray) (hs : s.size ≤ c.size) (w : World) => apart_any s (by omega) w
    have HF := hide (fun l => fold_size c l)
    have hr1 : ((c :: r).length : Int) = (r.length : Int) + 1 := by simp
    show Calls Try.prog 21 #[.slice (some ⟨b, off, none⟩) (r.length + 1) cap] w fun e w' => e = .returned (.string (foldB c r)) ∧ Below w.heap.size w w'
    have hcap' : r.length + 1 ≤ cap := by simpa using hcap
    clear hr1 hsz hr hcap
    cases r with
    | nil =>
      have A1 := A c (Nat.le_refl _)
      clear A
      go_enter Try.func21, Try.ntmps21
      go_wp2_with fail
      all_goals
        go_loopw [15, 3] (fun i cm wr => i = .int .i64 0 ∧ cm = .string c ∧ wr = w) (fun _ _ _ => 0)
        case atStart => exact ⟨rfl, rfl, rfl⟩
        case round =>
          obtain ⟨rfl, rfl, rfl⟩ := hrel
          go_wp2_with (go_at_call 25; go_must (with_reducible refine (A1 _).mono ?_; (rintro e w1 ⟨rfl, hb1⟩)))
          go_ret
          exact ⟨rfl, hb1⟩
    | cons d r' =>
      have hc1 : ¬ cap = 1 := by simp at hcap'; omega
      have hrl : 0 < (d :: r').length := by simp
      generalize (d :: r') = r at *
      have c1 : ¬ (cap - 1 = 0) := by omega
      have hz0 : ((r.length : Int) + 1 == 0) = false := by rw [beq_eq_false_iff_ne]; omega
      go_enter Try.func21, Try.ntmps21
      go_wp2_with fail
      go_loopw [15, 3] (fun i cm wr => Below w.heap.size w wr ∧ ∃ k : Nat, k ≤ r.length ∧ i = .int .i64 (k : Nat) ∧ cm = .string (foldB c (r.take k))) (fun i _ _ => r.length - (intOf i).toNat)
      case atStart => exact ⟨Below.refl _ _, 0, by omega, rfl, by rfl⟩
      case round =>
        obtain ⟨hbw, k, hk, rfl, rfl⟩ := hrel
        by_cases hlt : k < r.length
        · obtain ⟨x, hx⟩ : ∃ x, r[k]? = some x := ⟨r[k], List.getElem?_eq_getElem hlt⟩
          have hlt' : (k : Int) < (r.length : Int) := by omega
          have ck : wr.cell? ⟨b, off + 1 + k, none⟩ = some (.string x) := keep_cell (by have := hcell.out (k + 1) x (by simpa using hx); rwa [show off + (k + 1) = off + 1 + k by omega] at this) hbw
          have hxz := HSZ.out x (by simp [List.mem_of_getElem? hx])
          have hcz2 := HF.out (r.take k)
          have HN := hide (fold_next (c := c) hx)
          generalize foldB c (r.take k) = q at HN hcz2 ⊢
          have C := alike_any q x (by omega) hxz wr
          have hle := (alikeB_le q x).1
          generalize alikeB q x = m at C HN hle
          have HB := hide hbw
          clear hx hbw A c0
          go_wp2_with (go_at_call 30; go_must (with_reducible refine C.mono ?_; (rintro e w2 ⟨rfl, hb2⟩)))
          go_roundw
          case rel => exact ⟨chain HB.out hb2, k + 1, by omega, by go_num, by rw [HN.out]⟩
          case measure => simp [intOf]; omega
        · have hke : r.take k = r := List.take_of_length_le (by omega)
          rw [hke]
          have hlt' : ¬ (k : Int) < (r.length : Int) := by omega
          have A1 := A (foldB c r) (HF.out r)
          clear A c0 hke
          go_wp2_with (go_at_call 25; go_must (with_reducible refine (A1 _).mono ?_; (rintro e w1 ⟨rfl, hb1⟩)))
          go_ret
          exact ⟨rfl, chain hbw hb1⟩
end Go.Proofs.Ytbnefomabbepbaa
