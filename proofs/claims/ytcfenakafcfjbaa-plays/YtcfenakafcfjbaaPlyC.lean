/- BeatPlays: what each act's two calls do, told at once. -/
import Derived.Test.YtcfenakafcfjbaaPlyM
namespace Go.Proofs.Ytcfenakafcfjbaa
open Go.RowKit Go.ChangeShapes Go.WideShapes Go.ChangeAt Go.Deep Go.Maps Go.Sort
namespace beatPlays

def BeQ (v : Value) (E : Cl) (w : World) (cb : Nat) (wt : Int) (N : Nat) (F G : Int → Option Int) (e : Ending) (w' : World) : Prop := e = .returned v ∧ ∃ E', BeM E' w' cb wt N F G ∧ Stp E E' w w'
def RbQ (v : Value) (E : Cl) (w : World) (rb : Nat) (wt : Int) (S : List Wd) (e : Ending) (w' : World) : Prop := e = .returned v ∧ ∃ E', RbM E' w' rb wt S ∧ Stp E E' w w'
theorem be_more {E : Cl} {W : World} {cb N N' : Nat} {wt : Int} {F G : Int → Option Int} (h : BeM E W cb wt N F G) (hN : N ≤ N') : BeM E W cb wt N' F G := by
  obtain ⟨h1, h2, hw, v1, v2, h3, h4, h5, h6⟩ := h
  exact ⟨h1, h2, hw, v1, v2, h3, h4.mono hN, h5.mono hN, h6⟩
theorem BeQ.ofB {v : Value} {E : Cl} {w w' : World} {cb N : Nat} {wt : Int} {F G : Int → Option Int} (h : BeM E w cb wt N F G) (hb : Below w.heap.size w w') : BeQ v E w cb wt (N + 1) F G (.returned v) w' := ⟨rfl, E, be_more (h.below hb) (Nat.le_succ _), Stp.ofB hb⟩
theorem RbQ.same {v : Value} {E : Cl} {w : World} {rb : Nat} {wt : Int} {S : List Wd} (h : RbM E w rb wt S) : RbQ v E w rb wt S (.returned v) w := ⟨rfl, E, h, Stp.refl _ _⟩

/-- Heard. -/
theorem heard_two {F G : Int → Option Int} {S : List Wd} {N : Nat} (h : PR F G S) (hN : N ≤ 100000) (hS : S.length ≤ 100000) (cb rb : Nat) (wt : Int) (x life now : Int) (hx : I64 x) (hn : I64 now) :
    ∃ q F' G' S', PR F' G' S' ∧ S'.length ≤ S.length + 1 ∧
      (∀ E w, BeM E w cb wt N F G → Calls Try.prog 9 #[.pointer (some ⟨cb, 0, none⟩), .int .i64 x, .int .i64 life, .int .i64 now] w (BeQ (.bool q) E w cb wt (N + 1) F' G')) ∧
      (∀ E w, RbM E w rb (max 1 wt) S → Calls Try.prog 10 #[.pointer (some ⟨rb, 0, none⟩), .int .i64 x, .int .i64 life, .int .i64 now] w (RbQ (.bool q) E w rb (max 1 wt) S')) := by
  rcases pos_or S x with hk | ⟨k, e, hk⟩
  · refine ⟨false, F, G, S, h, Nat.le_succ _, fun E w hb => (heard_no hb x life now hx (h.heardn hk life now)).mono ?_, fun E w hr => (rheard_none hr hS x life now hk).mono ?_⟩
    · rintro e w' ⟨rfl, hB⟩; exact BeQ.ofB hb hB
    · rintro e w' ⟨rfl, rfl⟩; exact RbQ.same hr
  · have hq0 := h.heardq hk life now
    cases hq : heardQ F G x life now with
    | false =>
      refine ⟨false, F, G, S, h, Nat.le_succ _, fun E w hb => (heard_no hb x life now hx hq).mono ?_, fun E w hr => (rheard_no hr hS x life now hk (hq0.symm.trans hq)).mono ?_⟩
      · rintro e w' ⟨rfl, hB⟩; exact BeQ.ofB hb hB
      · rintro e w' ⟨rfl, rfl⟩; exact RbQ.same hr
    | true =>
      obtain ⟨h1, h2⟩ := h.heard hk hq
      refine ⟨true, _, _, _, h1, by rw [List.length_set]; exact Nat.le_succ _, fun E w hb => (heard_yes hb hN x life now hx hn h2 hq).mono ?_, fun E w hr => (rheard_yes hr hS x life now hk (hq0.symm.trans hq)).mono ?_⟩
      · rintro e w' ⟨rfl, hB, hs⟩; exact ⟨rfl, E, hB, hs⟩
      · rintro e w' ⟨rfl, hB, hs⟩; exact ⟨rfl, E, hB, hs⟩

/-- In. -/
theorem in_two {F G : Int → Option Int} {S : List Wd} {N : Nat} (h : PR F G S) (hN : N ≤ 100000) (hS : S.length ≤ 100000) (cb rb : Nat) (wt : Int) (x life now : Int) (hx : I64 x) (hl : I64 life) (hn : I64 now) :
    ∃ q F' G' S', PR F' G' S' ∧ S'.length ≤ S.length + 1 ∧
      (∀ E w, BeM E w cb wt N F G → Calls Try.prog 13 #[.pointer (some ⟨cb, 0, none⟩), .int .i64 x, .int .i64 life, .int .i64 now] w (BeQ (.bool q) E w cb wt (N + 1) F' G')) ∧
      (∀ E w, RbM E w rb (max 1 wt) S → Calls Try.prog 14 #[.pointer (some ⟨rb, 0, none⟩), .int .i64 x, .int .i64 life, .int .i64 now] w (RbQ (.bool q) E w rb (max 1 wt) S')) := by
  by_cases hb0 : (okT now && okT life) = true
  · have hb1 := hb0
    rw [Bool.and_eq_true] at hb1
    obtain ⟨o1, o2⟩ := hb1
    rcases pos_or S x with hk | ⟨k, e, hk⟩
    · have hq : inQ F G x life now = true := (h.inn_ hk life now).trans hb0
      refine ⟨true, _, _, _, h.innew hk hx o1 o2, by simp, fun E w hb => (in_yes hb hN x life now hx hl hn hq).mono ?_, fun E w hr => (rin_new hr hS x life now o1 o2 hk).mono ?_⟩
      · rintro e w' ⟨rfl, E', hB, hs⟩; exact ⟨rfl, E', hB, hs⟩
      · rintro e w' ⟨rfl, E', hB, hs⟩; exact ⟨rfl, E', hB, hs⟩
    · have hq0 := h.inq hk life now
      rw [hb0, Bool.true_and] at hq0
      cases hq : (e.inn || decide (life ≤ e.mo)) with
      | true =>
        rw [hq] at hq0
        refine ⟨false, F, G, S, h, Nat.le_succ _, fun E w hb => (in_no hb x life now hx hq0).mono ?_, fun E w hr => (rin_no hr hS x life now o1 o2 hk hq).mono ?_⟩
        · rintro e w' ⟨rfl, hB⟩; exact BeQ.ofB hb hB
        · rintro e w' ⟨rfl, rfl⟩; exact RbQ.same hr
      | false =>
        rw [hq] at hq0
        simp only [Bool.or_eq_false_iff, decide_eq_false_iff_not] at hq
        refine ⟨true, _, _, _, h.inset hk hx o1 o2, by rw [List.length_set]; exact Nat.le_succ _, fun E w hb => (in_yes hb hN x life now hx hl hn hq0).mono ?_, fun E w hr => (rin_put hr hS x life now o1 o2 hk hq.1 hq.2).mono ?_⟩
        · rintro e w' ⟨rfl, E', hB, hs⟩; exact ⟨rfl, E', hB, hs⟩
        · rintro e w' ⟨rfl, hB, hs⟩; exact ⟨rfl, E, hB, hs⟩
  · have hb1 : (okT now && okT life) = false := by simpa using hb0
    have hq : inQ F G x life now = false := by
      rcases pos_or S x with hk | ⟨k, e, hk⟩
      · exact (h.inn_ hk life now).trans hb1
      · rw [h.inq hk, hb1]; rfl
    refine ⟨false, F, G, S, h, Nat.le_succ _, fun E w hb => (in_no hb x life now hx hq).mono ?_, fun E w hr => (rin_bad w rb x life now hb1).mono ?_⟩
    · rintro e w' ⟨rfl, hB⟩; exact BeQ.ofB hb hB
    · rintro e w' ⟨rfl, rfl⟩; exact RbQ.same hr

set_option maxRecDepth 100000 in
theorem out_nil (w : World) (cb : Nat) (a : Option Addr) (c : Nat) : Calls Try.prog 11 #[.pointer (some ⟨cb, 0, none⟩), .slice a 0 c] w fun e w' => e = .returned (.tuple #[]) ∧ w' = w := by
  go_enter Try.func11, Try.ntmps11
  go_wp2
  go_loopw [8] (fun i wr => i = .int .i64 0 ∧ wr = w) (fun _ _ => 0)
  case atStart => exact ⟨rfl, rfl⟩
  case round =>
    obtain ⟨rfl, rfl⟩ := hrel
    go_wp2
    exact bodyPost_end (results_none rfl _ _ _) rfl ⟨rfl, rfl⟩
set_option maxRecDepth 100000 in
theorem rout_nil (w : World) (cb : Nat) (a : Option Addr) (c : Nat) : Calls Try.prog 12 #[.pointer (some ⟨cb, 0, none⟩), .slice a 0 c] w fun e w' => e = .returned (.tuple #[]) ∧ w' = w := by
  go_enter Try.func12, Try.ntmps12
  go_wp2
  go_loopw [4] (fun i wr => i = .int .i64 0 ∧ wr = w) (fun _ _ => 0)
  case atStart => exact ⟨rfl, rfl⟩
  case round =>
    obtain ⟨rfl, rfl⟩ := hrel
    go_wp2
    exact bodyPost_end (results_none rfl _ _ _) rfl ⟨rfl, rfl⟩

theorem reads_oldI {w : World} {a : Option Addr} {L : List Int} (h : Reads w a (iV L)) (h0 : L ≠ []) : ∀ b, a.map (·.block) = some b → b < w.heap.size := by
  intro b e
  rcases h with h | ⟨g, off, e1, h⟩
  · exact absurd (by simpa [iV] using h) h0
  · subst e1
    simp only [Option.map_some, Option.some.injEq] at e
    subst e
    cases L with
    | nil => exact absurd rfl h0
    | cons y r => exact cell_some_lt (h 0 (.int .i64 y) (by simp [iV]))
/-- Out. -/
theorem out_two {F G : Int → Option Int} {S : List Wd} {N : Nat} {w : World} (h : PR F G S) (hS : S.length ≤ 100000) (cb rb : Nat) (wt : Int) (L : List Int) (a : Option Addr) (n c : Nat) (hL : L.length = n) (hn : n ≤ 20000) (hi : In64 L) (hr0 : Reads w a (iV L)) :
    ∃ F' G' S', PR F' G' S' ∧ S'.length ≤ S.length + 1 ∧
      (∀ E W, BeM E W cb wt N F G → Below w.heap.size w W → (∀ k, E k → w.heap.size ≤ k) → Calls Try.prog 11 #[.pointer (some ⟨cb, 0, none⟩), .slice a n c] W (BeQ (.tuple #[]) E W cb wt (N + 1) F' G')) ∧
      (∀ E W, RbM E W rb (max 1 wt) S → Below w.heap.size w W → (∀ k, E k → w.heap.size ≤ k) → Calls Try.prog 12 #[.pointer (some ⟨rb, 0, none⟩), .slice a n c] W (RbQ (.tuple #[]) E W rb (max 1 wt) S')) := by
  subst hL
  refine ⟨outF F L, G, outS S L, h.outs L, by rw [outS_len]; exact Nat.le_succ _, fun E W hb hB hE => ?_, fun E W hr hB hE => ?_⟩
  · by_cases h0 : L = []
    · subst h0
      refine (out_nil W cb a c).mono ?_
      rintro e w' ⟨rfl, rfl⟩
      exact ⟨rfl, E, be_more hb (Nat.le_succ _), Stp.refl _ _⟩
    · refine (out_any hb L a _ c rfl hn hi (hr0.below hB) (fun b e he => by have := reads_oldI hr0 h0 b e; have := hE b he; omega)).mono ?_
      rintro e w' ⟨rfl, h1, h2⟩
      exact ⟨rfl, E, be_more h1 (Nat.le_succ _), h2⟩
  · by_cases h0 : L = []
    · subst h0
      refine (rout_nil W rb a c).mono ?_
      rintro e w' ⟨rfl, rfl⟩
      exact ⟨rfl, E, hr, Stp.refl _ _⟩
    · refine (rout_any hr hS L a _ c rfl hn (hr0.below hB) (fun b e he => by have := reads_oldI hr0 h0 b e; have := hE b he; omega)).mono ?_
      rintro e w' ⟨rfl, h1, h2⟩
      exact ⟨rfl, E, h1, h2⟩

/-- Life. -/
theorem life_two {F G : Int → Option Int} {S : List Wd} {N : Nat} (h : PR F G S) (hS : S.length ≤ 100000) (cb rb : Nat) (wt : Int) (x : Int) (hx : I64 x) :
    ∃ (v : Int) (q : Bool), (∀ E w, BeM E w cb wt N F G → Calls Try.prog 16 #[.pointer (some ⟨cb, 0, none⟩), .int .i64 x] w fun e w' => e = .returned (.tuple #[.int .i64 v, .bool q]) ∧ w' = w) ∧
      (∀ E w, RbM E w rb (max 1 wt) S → Calls Try.prog 17 #[.pointer (some ⟨rb, 0, none⟩), .int .i64 x] w fun e w' => e = .returned (.tuple #[.int .i64 v, .bool q]) ∧ w' = w) := by
  rcases pos_or S x with hk | ⟨k, e, hk⟩
  · refine ⟨0, false, fun E w hb => ?_, fun E w hr => rlife_no hr hS x hk⟩
    have := life_any hb x hx
    rw [h.lifen hk] at this
    exact this
  · obtain ⟨h1, h2⟩ := h.life hk
    refine ⟨_, _, fun E w hb => ?_, fun E w hr => rlife_yes hr hS x hk⟩
    have := life_any hb x hx
    rw [h1, h2] at this
    exact this

theorem co_ex (S : List Wd) (wt now : Int) : ∀ k, k ≤ S.length → ∃ L, CoP S wt now k L
  | 0, _ => ⟨[], CoP.nil _ _ _⟩
  | k + 1, hk => by
    obtain ⟨L, h⟩ := co_ex S wt now k (by omega)
    cases hl : lcW now wt S[k] with
    | false => exact ⟨L, h.no (by omega) hl⟩
    | true => exact ⟨_, h.yes (by omega) hl⟩
/-- Late. -/
theorem late_two {F G : Int → Option Int} {S : List Wd} {N : Nat} (h : PR F G S) (hN : N ≤ 100000) (hS : S.length ≤ 900) (cb rb : Nat) (wt now : Int) :
    ∃ L : List Int, L.length ≤ S.length ∧ (∀ E w, BeM E w cb wt N F G → Calls Try.prog 15 #[.pointer (some ⟨cb, 0, none⟩), .int .i64 now] w (RowP w L)) ∧
      (∀ E w, RbM E w rb (max 1 wt) S → Calls Try.prog 19 #[.pointer (some ⟨rb, 0, none⟩), .int .i64 now] w (RowP w L)) := by
  obtain ⟨L, hL1, hL2, hL3⟩ : ∃ L : List Int, L.length ≤ S.length ∧ L.Pairwise (· < ·) ∧ ∀ x, rlateS S (max 1 wt) now x ↔ x ∈ L := by
    cases hq : okT now with
    | false => exact ⟨[], Nat.zero_le _, List.Pairwise.nil, fun x => by simp [rlateS, hq]⟩
    | true =>
      obtain ⟨L, h1, h2, h3⟩ := co_ex S (max 1 wt) now S.length (Nat.le_refl _)
      refine ⟨L, h2, h1, fun x => ?_⟩
      rw [h3 x, List.take_length]
      unfold rlateS
      rw [hq]
      simp
  refine ⟨L, hL1, fun E w hb => (late_any w hb hN now).mono ?_, fun E w hr => (rlate_any hr hS (by omega) now).mono ?_⟩
  · intro e w' h'
    exact late_row h' L hL2 (fun x => (h.late wt now x).trans (hL3 x))
  · intro e w' h'
    exact late_row h' L hL2 hL3
end beatPlays
end Go.Proofs.Ytcfenakafcfjbaa
