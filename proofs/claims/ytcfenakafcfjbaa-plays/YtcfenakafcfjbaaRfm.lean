/- The document's beats in memory; find, Life. -/
import Derived.Test.YtcfenakafcfjbaaRis
import Derived.Deep.AppendLies
namespace Go.Proofs.Ytcfenakafcfjbaa
open Go.RowKit Go.ChangeShapes Go.WideShapes Go.ChangeAt Go.Deep Go.Maps Go.Sort

/-- One that is watched, or was. -/
structure Wd where
  nd : Int
  lf : Int
  at' : Int
  mo : Int
  inn : Bool
def Wd.cs (x : Wd) : List Value := [.int .i64 x.nd, .int .i64 x.lf, .int .i64 x.at', .int .i64 x.mo, .bool x.inn]
def wdV (l : List Wd) : List Value := l.flatMap Wd.cs
theorem wdV_len (l : List Wd) : (wdV l).length = l.length * 5 := by
  induction l with
  | nil => rfl
  | cons a r ih => show (Wd.cs a ++ wdV r).length = _; simp [ih, Wd.cs]; omega
theorem wdV_app (a b : List Wd) : wdV (a ++ b) = wdV a ++ wdV b := by simp [wdV]
theorem wdV_one (l : List Wd) : ∀ u ∈ wdV l, u.oneCell' = true := fun u hu => by
  simp only [wdV, List.mem_flatMap] at hu
  obtain ⟨y, _, hy⟩ := hu
  simp [Wd.cs] at hy
  rcases hy with rfl | rfl | rfl | rfl | rfl <;> rfl
theorem wdV_at (l : List Wd) (k j : Nat) (hk : k < l.length) (hj : j < 5) : (wdV l)[k * 5 + j]? = l[k].cs[j]? := by
  induction l generalizing k with
  | nil => simp at hk
  | cons a r ih =>
    have e : wdV (a :: r) = a.cs ++ wdV r := by simp [wdV]
    have hl : a.cs.length = 5 := rfl
    rw [e]
    cases k with
    | zero =>
      rw [List.getElem?_append_left (by omega)]
      simp
    | succ k =>
      rw [List.getElem?_append_right (by omega), hl, show (k + 1) * 5 + j - 5 = k * 5 + j by omega]
      simpa using ih k (by simpa using hk)
theorem wdV_set (l : List Wd) (k j : Nat) (hk : k < l.length) (hj : j < 5) (v : Value) (x : Wd) (hx : x.cs = l[k].cs.set j v) : (wdV l).set (k * 5 + j) v = wdV (l.set k x) := by
  induction l generalizing k with
  | nil => simp at hk
  | cons a r ih =>
    have e : ∀ a r, wdV (a :: r) = a.cs ++ wdV r := fun a r => by simp [wdV]
    have hl : a.cs.length = 5 := rfl
    cases k with
    | zero =>
      rw [List.set_cons_zero, e, e, Nat.zero_mul, Nat.zero_add, List.set_append_left _ _ (by omega), hx]
      rfl
    | succ k =>
      rw [List.set_cons_succ, e, e, List.set_append_right _ _ (by omega), hl, show (k + 1) * 5 + j - 5 = k * 5 + j by omega]
      rw [ih k (by simpa using hk) (by simpa using hx)]

/-- The row of those that are watched, or were. -/
def RowD (w : World) (a : Option Addr) (n c : Nat) (S : List Wd) : Prop := S.length = n ∧ w.ownsRow 0 49 5 (.slice a n c) n (wdV S)
theorem own_keepA {w w' : World} {B T z n : Nat} {v : Value} {xs : List Value} (h : w.ownsRow B T z v n xs) (hk : ∀ k, v.ownBlock = some k → w'.heap[k]? = w.heap[k]?) : w'.ownsRow B T z v n xs := by
  refine ⟨h.1, ?_⟩
  rcases h.2 with h2 | ⟨g, cap, cur, e, h1, h2, h3⟩
  · exact .inl h2
  · exact .inr ⟨g, cap, cur, e, h1, by rw [hk g (by rw [e]; rfl)]; exact h2, h3⟩
theorem RowD.nil (w : World) : RowD w none 0 0 [] := ⟨rfl, World.ownsRow_nil _ _ _ _⟩
theorem RowD.keep {w w' : World} {a : Option Addr} {n c : Nat} {S : List Wd} (h : RowD w a n c S) (hk : ∀ k, a.map (·.block) = some k → w'.heap[k]? = w.heap[k]?) : RowD w' a n c S :=
  ⟨h.1, own_keepA h.2 fun k e => hk k (by cases a with | none => cases e | some ad => simpa [Value.ownBlock] using e)⟩
theorem RowD.isAt {w : World} {a : Option Addr} {n c : Nat} {S : List Wd} (h : RowD w a n c S) (h0 : 0 < n) : ∃ b, a = some ⟨b, 0, none⟩ ∧ b < w.heap.size := by
  rcases h.2.2 with ⟨e, h1⟩ | ⟨g, cap, cur, e, h1, h2, _⟩
  · omega
  · simp only [Value.slice.injEq] at e
    exact ⟨g, e.1, (Array.getElem?_eq_some_iff.1 h2).1⟩
theorem RowD.lt {w : World} {a : Option Addr} {n c : Nat} {S : List Wd} (h : RowD w a n c S) {b : Nat} (hb : a.map (·.block) = some b) : b < w.heap.size := by
  cases a with
  | none => cases hb
  | some ad => exact (h.2.lt b (by simpa [Value.ownBlock] using hb)).2
theorem RowD.at {w : World} {b n c k : Nat} {S : List Wd} (h : RowD w (some ⟨b, 0, none⟩) n c S) (hk : k < S.length) :
    w.cell? ⟨b, k * 5, none⟩ = some (.int .i64 S[k].nd) ∧ w.cell? ⟨b, k * 5 + 1, none⟩ = some (.int .i64 S[k].lf) ∧ w.cell? ⟨b, k * 5 + 2, none⟩ = some (.int .i64 S[k].at') ∧ w.cell? ⟨b, k * 5 + 3, none⟩ = some (.int .i64 S[k].mo) ∧ w.cell? ⟨b, k * 5 + 4, none⟩ = some (.bool S[k].inn) ∧ ∀ j, w.frozen? ⟨b, j, none⟩ = false := by
  have hc := fun j u hu => h.2.cells (g := b) rfl j u hu
  simp only [add_none, Nat.zero_add] at hc
  have h0 := wdV_at S k 0 hk (by omega)
  have h1 := wdV_at S k 1 hk (by omega)
  have h2 := wdV_at S k 2 hk (by omega)
  have h3 := wdV_at S k 3 hk (by omega)
  have h4 := wdV_at S k 4 hk (by omega)
  simp only [Wd.cs, List.getElem?_cons_zero, List.getElem?_cons_succ, Nat.add_zero] at h0 h1 h2 h3 h4
  exact ⟨hc _ _ h0, hc _ _ h1, hc _ _ h2, hc _ _ h3, hc _ _ h4, fun j => h.2.frozenAt j⟩
theorem RowD.put {w : World} {b n c k : Nat} {S : List Wd} (h : RowD w (some ⟨b, 0, none⟩) n c S) (hk : k < S.length) (j : Nat) (hj : j < 5) (v : Value) (x : Wd) (hx : x.cs = S[k].cs.set j v) : RowD (w.setCell ⟨b, k * 5 + j, none⟩ v) (some ⟨b, 0, none⟩) n c (S.set k x) := by
  have ho := (h.2.stored (k * 5 + j) v).1
  rw [wdV_set S k j hk hj v x hx] at ho
  exact ⟨by rw [List.length_set]; exact h.1, ho⟩

/-- The document's beats in memory. -/
def RbM (E : Cl) (w : World) (rb : Nat) (wt : Int) (S : List Wd) : Prop :=
  (∀ k, E k → k < w.heap.size) ∧ E rb ∧ I64 wt ∧ ∃ a n c, BoxL w rb [.int .i64 wt, .slice a n c] ∧ RowD w a n c S ∧ ∀ g, a.map (·.block) = some g → E g ∧ g ≠ rb
theorem RbM.keep {E : Cl} {w w' : World} {rb : Nat} {wt : Int} {S : List Wd} (h : RbM E w rb wt S) (hs : w.heap.size ≤ w'.heap.size) (hk : ∀ k, E k → w'.heap[k]? = w.heap[k]?) : RbM E w' rb wt S := by
  obtain ⟨h1, h2, hw, a, n, c, h3, h4, h5⟩ := h
  exact ⟨fun k hk' => Nat.lt_of_lt_of_le (h1 k hk') hs, h2, hw, a, n, c, h3.keep hs (hk rb h2), h4.keep (fun g e => hk g (h5 g e).1), h5⟩
theorem RbM.below {E : Cl} {w w' : World} {rb : Nat} {wt : Int} {S : List Wd} (h : RbM E w rb wt S) (hb : Below w.heap.size w w') : RbM E w' rb wt S :=
  h.keep hb.size (fun k hk => hb.block k (h.1 k hk))
theorem RbM.other {E E1 E2 : Cl} {w w' : World} {rb : Nat} {wt : Int} {S : List Wd} (h : RbM E w rb wt S) (hs : Stp E1 E2 w w') (hd : ∀ k, E k → ¬ E1 k) : RbM E w' rb wt S :=
  h.keep hs.kp.size (fun k hk => hs.kp.block k (h.1 k hk) (hd k hk))

/-- Where one is. -/
def PosP (S : List Wd) (x r : Int) : Prop := (r = -1 ∧ ∀ e ∈ S, e.nd ≠ x) ∨ ∃ k, ∃ hk : k < S.length, r = (k : Int) ∧ S[k].nd = x ∧ ∀ j (hj : j < k), S[j].nd ≠ x

set_option maxRecDepth 100000 in
set_option maxHeartbeats 2000000 in
theorem find_any {E : Cl} {w : World} {rb : Nat} {wt : Int} {S : List Wd} (h : RbM E w rb wt S) (hS : S.length ≤ 100000) (x r : Int) (hr : PosP S x r) :
    Calls Try.prog 21 #[.pointer (some ⟨rb, 0, none⟩), .int .i64 x] w fun e w' => e = .returned (.int .i64 r) ∧ w' = w := by
  obtain ⟨h1, h2, hw, a, n, c, hB, hR, h5⟩ := h
  obtain ⟨c1, f1⟩ := hB.at (o := 1) rfl
  have HL := hide hR.1
  have HR := hide hR
  have HP := hide hr
  have hn : n ≤ 100000 := by rw [← hR.1]; exact hS
  clear hR h1 h5 hB hS hr
  go_enter Try.func21, Try.ntmps21
  go_wp2
  go_loopw [5] (fun i wr => wr = w ∧ ∃ k : Nat, k ≤ n ∧ i = .int .i64 (k : Nat) ∧ Hid (∀ j (hj : j < S.length), j < k → S[j].nd ≠ x)) (fun i _ => n - (intOf i).toNat)
  case atStart => exact ⟨rfl, 0, Nat.zero_le _, rfl, hide (fun j _ hj => by omega)⟩
  case round =>
    obtain ⟨rfl, k, hk, rfl, HA⟩ := hrel
    by_cases hlt : k < n
    · have hkl : k < S.length := by have := HL.out; omega
      have hlt' : (k : Int) < (n : Int) := by omega
      obtain ⟨g, rfl, hg⟩ := HR.out.isAt (by omega)
      have y0 := (HR.out.at hkl).1
      have HT := hide (fun (he : S[k].nd = x) => show r = (k : Int) from by
        rcases HP.out with ⟨_, h⟩ | ⟨j, hj, h1, h2, h3⟩
        · exact absurd he (h _ (List.getElem_mem _))
        · rcases Nat.lt_trichotomy j k with h4 | h4 | h4
          · exact absurd h2 (HA.out j hj h4)
          · rw [h1, h4]
          · exact absurd he (h3 k h4))
      have HN := hide (fun (he : S[k].nd ≠ x) j (hj : j < S.length) (h2 : j < k + 1) => show S[j].nd ≠ x by
        rcases Nat.lt_or_eq_of_le (Nat.le_of_lt_succ h2) with h3 | rfl
        · exact HA.out j hj h3
        · exact he)
      generalize S[k].nd = y at y0 HT HN
      clear hkl
      by_cases he : y = x
      · have HE := hide (HT.out he)
        subst he
        have t1 : (y == y) = true := by simp
        clear HT HN HA
        go_wp2_with fail
        go_ret
        exact ⟨ret_int HE.out.symm, rfl⟩
      · have HE := hide (HN.out he)
        have t1 : (y == x) = false := by rw [beq_eq_false_iff_ne]; exact he
        clear HT HN HA he
        go_wp2_with fail
        go_roundw
        case rel => exact ⟨trivial, k + 1, by omega, by go_num, HE⟩
        case measure => simp [intOf]; omega
    · obtain rfl : k = n := by omega
      have HE := hide (show r = -1 from by
        rcases HP.out with ⟨h, _⟩ | ⟨j, hj, h1, h2, h3⟩
        · exact h
        · exact absurd h2 (HA.out j hj (by have := HL.out; omega)))
      go_wp2
      go_ret
      exact ⟨ret_int HE.out.symm, rfl⟩
end Go.Proofs.Ytcfenakafcfjbaa
