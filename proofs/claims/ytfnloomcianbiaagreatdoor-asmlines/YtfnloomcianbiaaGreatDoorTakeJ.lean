/- takeJob. -/
import Derived.Test.YtfnloomcianbiaaGreatDoorRd
namespace Go.Proofs.YtfnloomcianbiaaGreatDoor
open Go.RowKit Go.ChangeShapes Go.WideShapes Go.ChangeAt Go.Deep

def isWord (s : ByteArray) (l : List UInt8) : Bool := s.toList == l
/-- The first line's words. -/
def jobL (ws : List ByteArray) : Option (Int × Int) :=
  match numsL ws.tail with
  | some [x, y] => if isWord (ws.headD ⟨#[]⟩) [106, 111, 98] then some (x, y) else none
  | _ => none

theorem reads_drop {w : World} {g off k : Nat} {xs : List Value} (h : Reads w (some ⟨g, off, none⟩) xs) : Reads w (some ⟨g, off + k, none⟩) (xs.drop k) := by
  rcases h with rfl | ⟨b, o, e, h⟩
  · exact .inl (by simp)
  · cases e
    refine .inr ⟨g, off + k, rfl, fun j u hu => ?_⟩
    rw [Nat.add_assoc]
    exact h (k + j) u (by rwa [List.getElem?_drop] at hu)

theorem own_two {w : World} {B : Nat} {v : Value} {x y : Int} {n : Nat} (h : w.ownsRow B 3 1 v n (iV [x, y])) : ∃ g cap, v = .slice (some ⟨g, 0, none⟩) 2 cap ∧ B ≤ g ∧ g < w.heap.size ∧ w.cell? ⟨g, 0, none⟩ = some (.int .i64 x) ∧ w.cell? ⟨g, 1, none⟩ = some (.int .i64 y) ∧ ∃ cur, w.heap[g]? = some (.cells cur 3 (0, 0)) := by
  have hl := h.1
  simp [iV] at hl
  subst hl
  rcases h.2 with ⟨_, e⟩ | ⟨g, cap, cur, rfl, hB, hh, _⟩
  · cases e
  · have c0 := h.cells (g := g) rfl 0 (.int .i64 x) rfl
    have c1 := h.cells (g := g) rfl 1 (.int .i64 y) rfl
    rw [add_none] at c0 c1
    exact ⟨g, cap, rfl, hB, lt_row hh, c0, c1, cur, hh⟩

/-- The reader's cells, each told. -/
theorem Rd.cells {B : Nat} {w : World} {b : Nat} {fv av uv : Value} {cs : List Value} {st : St} (h : Rd B w b fv av uv cs st) : w.cell? ⟨b, 0, none⟩ = some (.string st.rest) ∧ w.cell? ⟨b, 1, none⟩ = some (.int .i64 st.line) ∧ w.cell? ⟨b, 2, none⟩ = some fv ∧ w.cell? ⟨b, 3, none⟩ = some (.int .i64 st.main) ∧ w.cell? ⟨b, 4, none⟩ = some av ∧ w.cell? ⟨b, 5, none⟩ = some (.int .i64 st.fuel) ∧ w.cell? ⟨b, 6, none⟩ = some (.int .i64 st.tasks) ∧ w.cell? ⟨b, 7, none⟩ = some uv :=
  ⟨cell_row h.self rfl, cell_row h.self rfl, cell_row h.self rfl, cell_row h.self rfl, cell_row h.self rfl, cell_row h.self rfl, cell_row h.self rfl, cell_row h.self rfl⟩
theorem Rd.unfrozen {B : Nat} {w : World} {b : Nat} {fv av uv : Value} {cs : List Value} {st : St} (h : Rd B w b fv av uv cs st) (i : Nat) : w.frozen? ⟨b, i, none⟩ = false := frozen_row h.self

set_option maxRecDepth 100000 in
set_option maxHeartbeats 4000000 in
theorem takeJob_any (B b : Nat) (fv av uv : Value) (cs : List Value) (st : St) (ws : List ByteArray) (g n : Nat) (hn : ws.length = n + 1) (hbig : n ≤ 1000000) (hsz : ∀ s ∈ ws, s.size < 4294967281) (w : World) (hE : Env w) (hB : B ≤ w.heap.size) (hR : Rd B w b fv av uv cs st)
    (hr : Reads w (some ⟨g, 0, none⟩) (ws.map Value.string)) :
    Calls Tryz.prog 31 #[.pointer (some ⟨b, 0, none⟩), .slice (some ⟨g, 0, none⟩) (n + 1) (n + 1)] w fun e w' => ∃ ok, e = .returned (.bool ok) ∧ Below B w w' ∧
      ((ok = true ∧ ∃ x y, jobL ws = some (x, y) ∧ Rd B w' b fv av uv cs { st with fuel := x, tasks := y }) ∨ (ok = false ∧ jobL ws = none ∧ Rd B w' b fv av uv cs st)) := by
  obtain ⟨s, r, rfl⟩ : ∃ s r, ws = s :: r := by
    cases ws with
    | nil => cases hn
    | cons s r => exact ⟨s, r, rfl⟩
  have hrn : r.length = n := by simpa using hn
  have hr1 : Reads w (some ⟨g, 1, none⟩) (r.map Value.string) := by
    have := reads_drop (k := 1) hr
    simpa using this
  have C := fun (a : Option Addr) (ha : a = some ⟨g, 1, none⟩ ∨ n = 0) => nums_any r a n n hrn (by omega) (fun x hx => by have := hsz x (by simp [hx]); omega) w (by
    rcases ha with rfl | rfl
    · exact hr1
    · exact .inl (by rw [List.eq_nil_of_length_eq_zero hrn]; rfl)) hE
  obtain ⟨_, _, e0, hcs⟩ := str_at (k := 0) hr (by simp)
  cases e0
  have c0 := hcs 0 (by simp)
  simp only [Nat.add_zero, List.getElem_cons_zero] at c0
  have hgl := cell_some_lt c0
  have HJ := hide (show jobL (s :: r) = match numsL r with | some [x, y] => if isWord s [106, 111, 98] then some (x, y) else none | _ => none from rfl)
  clear hcs hr hr1 hsz
  rcases Nat.eq_zero_or_pos n with hn0 | hn0
  all_goals
    first
      | subst hn0
      | (have hn1 : ¬ (n = 0) := by omega)
    go_enter Tryz.func31, Tryz.ntmps31
    go_wp2_with (go_at_call 50; go_must (refine (C _ (by simp)).mono ?_; rintro e w1 ⟨v, ok, vs, rfl, hN, ho, hb1⟩; refine Hid.out ?_))
    refine Lib.hid ?_
    have hR1 := hR.keep hb1
    have k0 := keep_cell c0 hb1
    have hB1 := (hb1.mono hB : Below B w w1)
    cases ok with
    | false =>
      have hJ : jobL (s :: r) = none := by
        rw [HJ.out]
        rcases hN with ⟨h, _⟩ | ⟨_, h, _⟩
        · cases h
        · rw [h]
      clear hN HJ C
      go_wp2
      go_ret
      exact ⟨_, rfl, hB1, .inr ⟨rfl, hJ, hR1⟩⟩
    | true =>
      have hN' : numsL r = some vs := by
        rcases hN with ⟨_, h⟩ | ⟨h, _⟩
        · exact h
        · cases h
      rw [hN'] at HJ
      clear hN hN' C
      cases hd : (s.toList == [106, 111, 98]) with
      | false =>
        have hJ : jobL (s :: r) = none := by
          rw [HJ.out]
          unfold isWord
          rw [hd]
          split <;> rfl
        clear HJ
        go_wp2
        go_ret
        exact ⟨_, rfl, hB1, .inr ⟨rfl, hJ, hR1⟩⟩
      | true =>
        by_cases h2 : vs.length = 2
        · obtain ⟨x, y, rfl⟩ : ∃ x y, vs = [x, y] := by
            match vs, h2 with
            | [x, y], _ => exact ⟨x, y, rfl⟩
          have hJ : jobL (s :: r) = some (x, y) := by
            rw [HJ.out]
            simp only [isWord, hd, if_true]
          obtain ⟨q, cap, rfl, hq1, hq2, z0, z1, cur, hq⟩ := own_two ho
          have hqb : q ≠ b := fun e => by
            rw [e, hR1.self] at hq
            injection hq with e1
            injection e1 with _ e2 _
            cases e2
          have hqb' : b ≠ q := fun e => hqb e.symm
          obtain ⟨_, _, _, _, _, z5, z6, _⟩ := hR1.cells
          have f5 := hR1.unfrozen 5
          have f6 := hR1.unfrozen 6
          clear HJ h2
          have HR := hide hR1
          clear hR1 hR ho hq
          go_upto_region 4 with fail
          go_region_held3 (fun w' => w'.cell? ⟨q, 0, none⟩ = some (.int .i64 x) ∧ w'.cell? ⟨q, 1, none⟩ = some (.int .i64 y) ∧ w'.frozen? ⟨b, 5, none⟩ = false ∧ w'.frozen? ⟨b, 6, none⟩ = false) (first | (exact ⟨by simpa [World.cell?_setCell_far, hqb, hqb'] using z0, by simpa [World.cell?_setCell_far, hqb, hqb'] using z1, by simpa using f5, by simpa using f6⟩) | go_keep) (fail)
          have hr1 := set_row (i := 5) HR.out.self (.int .i64 x)
          have hr2 := set_row (i := 6) hr1 (.int .i64 y)
          have hg : w1.grownBy ((w1.setCell ⟨b, 5, none⟩ (.int .i64 x)).setCell ⟨b, 6, none⟩ (.int .i64 y)) (some b) := grown_trans (grown_setCell w1 b 5 _) (grown_setCell _ b 6 _)
          have hRR := hide (HR.out.turn hg hr2)
          have hBB := hide (hB1.trans (HR.out.below hg (Nat.le_trans hB hb1.size)))
          clear hr1 hr2 hg
          go_wp2
          go_ret
          exact ⟨_, rfl, hBB.out.drew, .inl ⟨rfl, x, y, hJ, hRR.out.keep (Below.refl _ _).drew⟩⟩
        · have hJ : jobL (s :: r) = none := by
            rw [HJ.out]
            match vs, h2 with
            | [], _ => rfl
            | [_], _ => rfl
            | [_, _], h => exact absurd rfl h
            | _ :: _ :: _ :: _, _ => rfl
          obtain ⟨va, vc, rfl⟩ : ∃ va vc, v = .slice va vs.length vc := by
            rcases ho.2 with ⟨rfl, e⟩ | ⟨g, cap, cur, rfl, _⟩
            · exact ⟨none, 0, by rw [e]⟩
            · exact ⟨_, cap, rfl⟩
          have h2' : ¬ (vs.length : Int) = 2 := by omega
          clear HJ ho h2
          go_wp2
          go_ret
          exact ⟨_, rfl, hB1, .inr ⟨rfl, hJ, hR1⟩⟩
end Go.Proofs.YtfnloomcianbiaaGreatDoor
