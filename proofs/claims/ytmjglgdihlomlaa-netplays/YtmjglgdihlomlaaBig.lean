/- The acts of NetPlays in memory; big. -/
import Derived.Test.YtmjglgdihlomlaaSam
namespace Go.Proofs.Ytmjglgdihlomlaa
open Go.RowKit Go.ChangeShapes Go.WideShapes Go.ChangeAt Go.Deep

/-- An act in memory: its numbers, its row of parcels, its row of nodes. -/
structure Am where
  wy : Int
  k : Int
  b : Int
  a : Option Addr
  n : Nat
  c : Nat
  l : List Pm
  d : Option Addr
  m : Nat
  e : Nat
  ns : List Int
def Am.cs (x : Am) : List Value := [.int .i64 x.wy, .int .i64 x.k, .int .i64 x.b, .slice x.a x.n x.c, .slice x.d x.m x.e]
def aV (l : List Am) : List Value := l.flatMap Am.cs
theorem aV_at (l : List Am) (k : Nat) (h : k < l.length) : (aV l)[5 * k]? = some (.int .i64 l[k].wy) ∧ (aV l)[5 * k + 1]? = some (.int .i64 l[k].k) ∧ (aV l)[5 * k + 2]? = some (.int .i64 l[k].b) ∧ (aV l)[5 * k + 3]? = some (.slice l[k].a l[k].n l[k].c) ∧ (aV l)[5 * k + 4]? = some (.slice l[k].d l[k].m l[k].e) := by
  induction l generalizing k with
  | nil => simp at h
  | cons a r ih =>
    have e : aV (a :: r) = .int .i64 a.wy :: .int .i64 a.k :: .int .i64 a.b :: .slice a.a a.n a.c :: .slice a.d a.m a.e :: aV r := by simp [aV, Am.cs]
    rw [e]
    cases k with
    | zero => simp
    | succ k =>
      have := ih k (by simpa using h)
      rw [show 5 * (k + 1) = 5 * k + 1 + 1 + 1 + 1 + 1 by omega, show 5 * k + 1 + 1 + 1 + 1 + 1 + 1 = (5 * k + 1) + 1 + 1 + 1 + 1 + 1 by omega, show 5 * k + 1 + 1 + 1 + 1 + 1 + 2 = (5 * k + 2) + 1 + 1 + 1 + 1 + 1 by omega, show 5 * k + 1 + 1 + 1 + 1 + 1 + 3 = (5 * k + 3) + 1 + 1 + 1 + 1 + 1 by omega, show 5 * k + 1 + 1 + 1 + 1 + 1 + 4 = (5 * k + 4) + 1 + 1 + 1 + 1 + 1 by omega]
      simpa using this
/-- A row of acts that is read; all of it lies in blocks of A. -/
def RowA (A : Nat → Prop) (w : World) (a : Option Addr) (n : Nat) (l : List Am) : Prop :=
  l.length = n ∧ Reads w a (aV l) ∧ (∀ ad, a = some ad → 0 < n → A ad.block) ∧ ∀ x ∈ l, RowP A w x.a x.n x.c x.l ∧ x.ns.length = x.m ∧ (x.d = none → x.m = 0 ∧ x.e = 0) ∧ Reads w x.d (iV x.ns) ∧ ∀ ad, x.d = some ad → 0 < x.m → A ad.block
theorem RowA.keep {A : Nat → Prop} {w w' : World} {a : Option Addr} {n : Nat} {l : List Am} (h : RowA A w a n l) (hk : ∀ k, A k → k < w.heap.size → w'.heap[k]? = w.heap[k]?) : RowA A w' a n l := by
  obtain ⟨h1, h2, h3, h4⟩ := h
  refine ⟨h1, h2.keepA (fun ad e h0 => h3 ad e ?_) hk, h3, fun x hx => ?_⟩
  · rcases Nat.eq_zero_or_pos n with e0 | h5
    · have : l = [] := List.eq_nil_of_length_eq_zero (by omega)
      subst this
      simp [aV] at h0
    · exact h5
  · obtain ⟨g1, g2, g3, g4, g5⟩ := h4 x hx
    exact ⟨g1.keep hk, g2, g3, g4.keepA (fun ad e h0 => g5 ad e (by rw [iV_len] at h0; omega)) hk, g5⟩
theorem RowA.at {A : Nat → Prop} {w : World} {a : Option Addr} {n : Nat} {l : List Am} (h : RowA A w a n l) {k : Nat} (hk : k < l.length) :
    ∃ g off, a = some ⟨g, off, none⟩ ∧ w.cell? ⟨g, off + k * 5, none⟩ = some (.int .i64 l[k].wy) ∧ w.cell? ⟨g, off + k * 5 + 1, none⟩ = some (.int .i64 l[k].k) ∧ w.cell? ⟨g, off + k * 5 + 2, none⟩ = some (.int .i64 l[k].b) ∧ w.cell? ⟨g, off + k * 5 + 3, none⟩ = some (.slice l[k].a l[k].n l[k].c) ∧ w.cell? ⟨g, off + k * 5 + 4, none⟩ = some (.slice l[k].d l[k].m l[k].e) := by
  obtain ⟨q0, q1, q2, q3, q4⟩ := aV_at l k hk
  rcases h.2.1 with e | ⟨b, off, e, hr⟩
  · rw [e] at q0; simp at q0
  · rw [Nat.mul_comm] at q0 q1 q2 q3 q4
    exact ⟨b, off, e, hr _ _ q0, by simpa [Nat.add_assoc] using hr _ _ q1, by simpa [Nat.add_assoc] using hr _ _ q2, by simpa [Nat.add_assoc] using hr _ _ q3, by simpa [Nat.add_assoc] using hr _ _ q4⟩
def bigA (x : Am) : Bool := decide (20 < x.n) || decide (50 < x.m) || x.l.any fun y => decide (200 < y.n)

set_option linter.unusedSimpArgs false in
set_option maxRecDepth 100000 in
set_option maxHeartbeats 4000000 in
theorem big_any (A : Nat → Prop) (w : World) (a : Option Addr) (n c : Nat) (l : List Am) (h : RowA A w a n l) (hc : n ≤ 9223372036854775807) :
    Calls Try.prog 8 #[.slice a n c] w fun e w' => e = .returned (.bool (decide (200 < n) || l.any bigA)) ∧ w' = w := by
  by_cases hbig : 200 < n
  · have HO := hide (show (decide (200 < n) || l.any bigA) = true by simp [hbig])
    have hbi : (200 : Int) < (n : Int) := by omega
    clear h
    go_enter Try.func8, Try.ntmps8
    go_wp2
    go_ret
    exact ⟨by rw [HO.out]; rfl, rfl⟩
  · have HR := hide h
    have HL := hide h.1
    have HO := hide (show (decide (200 < n) || l.any bigA) = l.any bigA by simp [hbig])
    have HOT := hide (fun k (h1 : k < l.length) (h2 : bigA l[k] = true) => show (decide (200 < n) || l.any bigA) = true by
      rw [HO.out, List.any_eq_true]; exact ⟨_, List.getElem_mem h1, h2⟩)
    have HOF := hide (fun (h2 : ∀ k (h : k < l.length), k < n → bigA l[k] = false) => show (decide (200 < n) || l.any bigA) = false by
      rw [HO.out, List.any_eq_false]
      intro x hx
      obtain ⟨i, hi, rfl⟩ := List.getElem_of_mem hx
      rw [h2 i hi (by have := HL.out; omega)]; simp)
    generalize (decide (200 < n) || l.any bigA) = R at HO HOT HOF ⊢
    have hbi : ¬ (200 : Int) < (n : Int) := by omega
    have H0 := hide (show ∀ k (h : k < l.length), k < 0 → bigA l[k] = false from fun k _ h => by omega)
    clear h
    go_enter Try.func8, Try.ntmps8
    go_wp2
    go_loopw [3] (fun i wr => w = wr ∧ ∃ k : Nat, k ≤ n ∧ i = .int .i64 (k : Nat) ∧ Hid (∀ j (h : j < l.length), j < k → bigA l[j] = false)) (fun i _ => n - (intOf i).toNat)
    case atStart => exact ⟨rfl, 0, Nat.zero_le _, rfl, H0⟩
    case round =>
      obtain ⟨rfl, k, hk, rfl, HA⟩ := hrel
      by_cases hlt : k < n
      · have hkl : k < l.length := by have := HL.out; omega
        have hlt' : (k : Int) < (n : Int) := by omega
        obtain ⟨g, off, har, y0, y1, y2, y3, y4⟩ := HR.out.at hkl
        subst har
        have HP := hide (HR.out.2.2.2 l[k] (List.getElem_mem _)).1
        have HT := hide (HOT.out k hkl)
        have HN := hide (fun (h : bigA l[k] = false) j (h1 : j < l.length) (h2 : j < k + 1) => show bigA l[j] = false by
          rcases Nat.lt_or_eq_of_le (Nat.le_of_lt_succ h2) with h3 | rfl
          · exact HA.out j h1 h3
          · exact h)
        obtain ⟨x, hx⟩ : ∃ x, x = l[k] := ⟨_, rfl⟩
        rw [← hx] at y3 y4 HP HT HN
        clear hx hkl y0 y1 y2
        by_cases h1 : 20 < x.n
        · have h1' : (20 : Int) < (x.n : Int) := by omega
          have HT2 := hide (HT.out (by simp [bigA, h1]))
          go_wp2
          go_ret
          exact ⟨by rw [HT2.out]; rfl, rfl⟩
        · have h1' : ¬ (20 : Int) < (x.n : Int) := by omega
          by_cases h2 : 50 < x.m
          · have h2' : (50 : Int) < (x.m : Int) := by omega
            have HT2 := hide (HT.out (by simp [bigA, h2]))
            go_wp2
            go_ret
            exact ⟨by rw [HT2.out]; rfl, rfl⟩
          · have h2' : ¬ (50 : Int) < (x.m : Int) := by omega
            have HPL := hide HP.out.1
            have HB := hide (fun i (hi : i < x.l.length) (hb : 200 < x.l[i].n) => HT.out (by
              have : x.l.any (fun y => decide (200 < y.n)) = true := by rw [List.any_eq_true]; exact ⟨_, List.getElem_mem hi, by simpa using hb⟩
              simp [bigA, this]))
            have HNB := hide (fun (h : ∀ i (hi : i < x.l.length), i < x.n → ¬ 200 < x.l[i].n) => HN.out (by
              have : x.l.any (fun y => decide (200 < y.n)) = false := by
                rw [List.any_eq_false]
                intro y hy
                obtain ⟨i, hi, rfl⟩ := List.getElem_of_mem hy
                simpa using h i hi (by have := HPL.out; omega)
              simp [bigA, h1, h2, this]))
            have H00 := hide (show ∀ i (hi : i < x.l.length), i < 0 → ¬ 200 < x.l[i].n from fun i _ h => by omega)
            generalize hxn : x.n = xn at y3 HP h1 h1' HPL HNB
            generalize x.a = xa at y3 HP
            generalize x.c = xc at y3 HP
            generalize x.d = xd at y4
            generalize x.m = xm at y4 h2 h2'
            generalize x.e = xe at y4
            generalize x.l = xl at HP HPL HB HNB H00
            clear HT HN hxn
            go_wp2
            go_loopw [4] (fun i wr => w = wr ∧ ∃ q : Nat, q ≤ xn ∧ i = .int .i64 (q : Nat) ∧ Hid (∀ i (hi : i < xl.length), i < q → ¬ 200 < xl[i].n)) (fun i _ => xn - (intOf i).toNat)
            case atStart => exact ⟨by first | rfl | trivial, 0, Nat.zero_le _, rfl, H00⟩
            case round =>
              obtain ⟨rfl, q, hq, rfl, HQ⟩ := hrel
              by_cases hqn : q < xn
              · have hql : q < xl.length := by have := HPL.out; omega
                have hqn' : (q : Int) < (xn : Int) := by omega
                obtain ⟨g2, off2, har2, z0, z1, z2⟩ := HP.out.at hql
                subst har2
                have HBq := hide (HB.out q hql)
                have HQN := hide (fun (h : ¬ 200 < xl[q].n) i (hi : i < xl.length) (h2 : i < q + 1) => show ¬ 200 < xl[i].n by
                  rcases Nat.lt_or_eq_of_le (Nat.le_of_lt_succ h2) with h3 | rfl
                  · exact HQ.out i hi h3
                  · exact h)
                generalize xl[q].n = yn at z2 HBq HQN
                generalize xl[q].a = ya at z2
                generalize xl[q].c = yc at z2
                clear hql z0 z1
                by_cases hy : 200 < yn
                · have hy' : (200 : Int) < (yn : Int) := by omega
                  have HT2 := hide (HBq.out hy)
                  go_wp2
                  go_ret
                  exact ⟨by rw [HT2.out]; rfl, rfl⟩
                · have hy' : ¬ (200 : Int) < (yn : Int) := by omega
                  have HQ2 := hide (HQN.out hy)
                  go_wp2
                  go_roundw
                  case rel => exact ⟨by first | rfl | trivial, q + 1, by omega, by go_num, HQ2⟩
                  case measure => simp [intOf]; omega
              · obtain rfl : q = xn := by omega
                have HA2 := hide (HNB.out HQ.out)
                go_wp2
                go_roundw
                case rel => exact ⟨by first | rfl | trivial, k + 1, by omega, by go_num, HA2⟩
                case measure => simp [intOf]; omega
      · obtain rfl : k = n := by omega
        have HF := hide (HOF.out HA.out)
        go_wp2
        go_ret
        exact ⟨by rw [HF.out]; rfl, rfl⟩
end Go.Proofs.Ytmjglgdihlomlaa
