/- The document's Out, In. -/
import Derived.Test.YtcfenakafcfjbaaRhe
namespace Go.Proofs.Ytcfenakafcfjbaa
open Go.RowKit Go.ChangeShapes Go.WideShapes Go.ChangeAt Go.Deep Go.Maps Go.Sort

/-- The first one with this number is changed. -/
def modF (f : Wd → Wd) : List Wd → Int → List Wd
  | [], _ => []
  | e :: r, x => if e.nd = x then f e :: r else e :: modF f r x
theorem modF_len (f : Wd → Wd) : ∀ (S : List Wd) (x : Int), (modF f S x).length = S.length
  | [], _ => rfl
  | e :: r, x => by unfold modF; split <;> simp [modF_len f r x]
theorem modF_at {f : Wd → Wd} : ∀ {S : List Wd} {x : Int} {k : Nat} {e : Wd}, AtP S x k e → modF f S x = S.set k (f e)
  | [], _, _, _, ⟨hk, _⟩ => by simp at hk
  | a :: r, x, 0, e, ⟨hk, h1, h2, _⟩ => by
    simp at h1; subst h1
    simp [modF, h2]
  | a :: r, x, k + 1, e, ⟨hk, h1, h2, h3⟩ => by
    have h0 : a.nd ≠ x := h3 0 (by omega)
    have : AtP r x k e := ⟨by simpa using hk, by simpa using h1, h2, fun j hj => by have := h3 (j + 1) (by omega); simpa using this⟩
    simp [modF, h0, modF_at (f := f) this]
theorem modF_no {f : Wd → Wd} : ∀ {S : List Wd} {x : Int}, NoP S x → modF f S x = S
  | [], _, _ => rfl
  | a :: r, x, h => by
    have h0 : a.nd ≠ x := h a (by simp)
    simp [modF, h0, modF_no (f := f) (fun e he => h e (List.mem_cons_of_mem _ he) : NoP r x)]
theorem pos_or : ∀ (S : List Wd) (x : Int), NoP S x ∨ ∃ k e, AtP S x k e
  | [], _ => .inl (fun e he => by cases he)
  | a :: r, x => by
    by_cases h : a.nd = x
    · exact .inr ⟨0, a, by simp, rfl, h, fun j hj => by omega⟩
    · rcases pos_or r x with h1 | ⟨k, e, hk, h2, h3, h4⟩
      · refine .inl fun e he => ?_
        rcases List.mem_cons.1 he with rfl | he
        · exact h
        · exact h1 e he
      · refine .inr ⟨k + 1, e, by simpa using hk, by simpa using h2, h3, fun j hj => ?_⟩
        cases j with
        | zero => exact h
        | succ j => simpa using h4 j (by omega)
def offW (e : Wd) : Wd := { e with inn := false }
def outS (S : List Wd) (l : List Int) : List Wd := l.foldl (fun S x => modF offW S x) S
theorem outS_len (l : List Int) : ∀ S, (outS S l).length = S.length := by
  induction l with
  | nil => intro S; rfl
  | cons a r ih => intro S; show (outS (modF offW S a) r).length = _; rw [ih, modF_len]

set_option maxRecDepth 100000 in
set_option maxHeartbeats 2000000 in
theorem rout_any {E : Cl} {w : World} {rb : Nat} {wt : Int} {S : List Wd} (h : RbM E w rb wt S) (hS : S.length ≤ 100000) (l : List Int) (a : Option Addr) (n c : Nat) (hl : l.length = n) (hn : n ≤ 20000) (ra : Reads w a (iV l)) (hE : ∀ b, a.map (·.block) = some b → ¬ E b) :
    Calls Try.prog 12 #[.pointer (some ⟨rb, 0, none⟩), .slice a n c] w fun e w' => e = .returned (.tuple #[]) ∧ RbM E w' rb wt (outS S l) ∧ Stp E E w w' := by
  have HL := hide hl
  have HM := hide h
  have HE := hide hE
  have HR := hide ra
  have HS := hide hS
  clear h hl ra hE hS
  go_enter Try.func12, Try.ntmps12
  go_wp2
  go_loopw [4, 5] (fun i _ wr => ∃ k : Nat, k ≤ n ∧ i = .int .i64 (k : Nat) ∧ Hid (RbM E wr rb wt (outS S (l.take k)) ∧ Stp E E w wr)) (fun i _ _ => n - (intOf i).toNat)
  case atStart => exact ⟨0, Nat.zero_le _, rfl, hide ⟨HM.out, Stp.refl _ _⟩⟩
  case round =>
    obtain ⟨k, hk, rfl, HA⟩ := hrel
    by_cases hlt : k < n
    · have hkl : k < l.length := by have := HL.out; omega
      have hlt' : (k : Int) < (n : Int) := by omega
      have ra' : Reads wr a (iV l) := by
        rcases HR.out with e | ⟨b, off, rfl, hc⟩
        · exact .inl e
        · refine .inr ⟨b, off, rfl, fun j u hu => ?_⟩
          have h1 := hc j u hu
          rw [World.cell?_of_block (w := w) (a := ⟨b, off + j, none⟩) (HA.out.2.kp.block b (cell_some_lt h1) (HE.out b rfl))]
          exact h1
      obtain ⟨g, off, har, hcs⟩ := reads_at ra' hkl
      subst har
      have y0 := hcs.out k (.int .i64 l[k]) (by simp [iV, hkl])
      have HT := hide (take_more (List.getElem?_eq_getElem hkl))
      generalize l[k] = x at y0 HT
      have HO := hide (show outS S (l.take (k + 1)) = modF offW (outS S (l.take k)) x from by rw [HT.out]; simp [outS, List.foldl_append])
      have hln : (outS S (l.take k)).length ≤ 100000 := by rw [outS_len]; exact HS.out
      generalize outS S (l.take k) = U at HA HO hln
      clear hcs hkl
      rcases pos_or U x with hno | ⟨j, e, hat⟩
      · have C21 := hide (find_any HA.out.1 hln x (-1) hno.pos)
        have HN := hide (show RbM E wr rb wt (outS S (l.take (k + 1))) ∧ Stp E E w wr from by rw [HO.out, modF_no hno]; exact HA.out)
        clear hno HA
        go_wp2_with (go_at_call 21; go_must ((with_reducible refine C21.out.mono ?_); rintro e w1 ⟨rfl, hw1⟩; subst hw1))
        go_roundw
        case rel => exact ⟨k + 1, by omega, by go_num, HN⟩
        case measure => simp [intOf]; omega
      · have C21 := hide (find_any HA.out.1 hln x j hat.pos)
        obtain ⟨g2, n2, c2, hkn, hg, c1, y00, y1, y2, y3, y4, y5, hP⟩ := HA.out.1.cells hat
        have hj1 : (j : Int) ≥ 0 := by omega
        have hj2 : (j : Int) < (n2 : Int) := by omega
        have hf := y5 (j * 5 + 4)
        have HN := hide (show RbM E (wr.setCell ⟨g2, j * 5 + 4, none⟩ (.bool false)) rb wt (outS S (l.take (k + 1))) ∧ Stp E E w (wr.setCell ⟨g2, j * 5 + 4, none⟩ (.bool false)) from by
          have := hP 4 (.bool false) (offW e) (by omega) (by simp [Wd.cs, offW])
          rw [HO.out, modF_at hat]
          exact ⟨this.1, HA.out.2.trans this.2⟩)
        clear hat HA hP y5 y00 y1 y2 y3
        go_wp2_with (go_at_call 21; go_must ((with_reducible refine C21.out.mono ?_); rintro e w1 ⟨rfl, hw1⟩; subst hw1))
        go_roundw
        case rel => exact ⟨k + 1, by omega, by go_num, HN⟩
        case measure => simp [intOf]; omega
    · obtain rfl : k = n := by omega
      have HN := hide (show RbM E wr rb wt (outS S l) ∧ Stp E E w wr from by
        have h := HA.out
        rw [List.take_of_length_le (by have := HL.out; omega)] at h
        exact h)
      go_wp2
      exact bodyPost_end (results_none rfl _ _ _) rfl ⟨rfl, HN.out.1, HN.out.2⟩
end Go.Proofs.Ytcfenakafcfjbaa
