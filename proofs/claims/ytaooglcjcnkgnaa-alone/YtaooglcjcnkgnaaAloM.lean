/- A row that is one's own, cut at both ends: memory. -/
import Derived.Test.YtaooglcjcnkgnaaIts
import Derived.Test.YtaooglcjcnkgnaaThu
import Derived.ArgAppend
namespace Go.Proofs.Ytaooglcjcnkgnaa
open Go.RowKit Go.ChangeShapes Go.WideShapes Go.ChangeAt Go.Deep

def blk (a : Option Addr) : Option Nat := a.map (·.block)

theorem blk_own (a : Option Addr) (n c : Nat) : (Value.slice a n c).ownBlock = blk a := by cases a <;> rfl

/-- A row of one's own, from anywhere in its block on. -/
def OV (w : World) (B : Nat) (a : Option Addr) (n c : Nat) (xs : List Int) : Prop :=
  xs.length = n ∧ n ≤ c ∧ c ≤ maxLen ∧ ((a = none ∧ c = 0) ∨ ∃ b off, a = some ⟨b, off, none⟩ ∧ B ≤ b ∧ b < w.heap.size ∧ (∀ j u, (iV xs)[j]? = some u → w.cell? ⟨b, off + j, none⟩ = some u) ∧ (∀ j, j < c → (w.cell? ⟨b, off + j, none⟩).isSome = true ∧ w.frozen? ⟨b, off + j, none⟩ = false))

theorem OV.nil (w : World) (B : Nat) : OV w B none 0 0 [] := ⟨rfl, Nat.le_refl _, Nat.zero_le _, .inl ⟨rfl, rfl⟩⟩

theorem OV.keep {w w' : World} {B : Nat} {a : Option Addr} {n c : Nat} {xs : List Int} (h : OV w B a n c xs) (hs : w.heap.size ≤ w'.heap.size) (hb : ∀ b, blk a = some b → w'.heap[b]? = w.heap[b]?) : OV w' B a n c xs := by
  obtain ⟨h1, h2, h3, h4⟩ := h
  refine ⟨h1, h2, h3, ?_⟩
  rcases h4 with h4 | ⟨b, off, rfl, h5, h6, h7, h8⟩
  · exact .inl h4
  · have hb' := hb b rfl
    refine .inr ⟨b, off, rfl, h5, Nat.lt_of_lt_of_le h6 hs, fun j u hu => ?_, fun j hj => ?_⟩
    · rw [World.cell?_of_block (w := w) (a := ⟨b, off + j, none⟩) hb']; exact h7 j u hu
    · rw [World.cell?_of_block (w := w) (a := ⟨b, off + j, none⟩) hb', World.frozen?_of_block (w := w) (a := ⟨b, off + j, none⟩) hb']; exact h8 j hj

theorem OV.lt {w : World} {B : Nat} {a : Option Addr} {n c : Nat} {xs : List Int} (h : OV w B a n c xs) {b : Nat} (hb : blk a = some b) : B ≤ b ∧ b < w.heap.size := by
  rcases h.2.2.2 with ⟨rfl, _⟩ | ⟨b', off, rfl, h5, h6, _⟩
  · simp [blk] at hb
  · simp [blk] at hb; omega

theorem OV.below {w w' : World} {B : Nat} {a : Option Addr} {n c : Nat} {xs : List Int} (h : OV w B a n c xs) (hb : Below w.heap.size w w') : OV w' B a n c xs :=
  h.keep hb.size (fun b e => hb.block b (h.lt e).2)

theorem OV.reads {w : World} {B : Nat} {a : Option Addr} {n c : Nat} {xs : List Int} (h : OV w B a n c xs) : Reads w a (iV xs) := by
  obtain ⟨h1, h2, h3, h4⟩ := h
  rcases h4 with ⟨rfl, rfl⟩ | ⟨b, off, rfl, h5, h6, h7, h8⟩
  · left
    have : xs = [] := List.eq_nil_of_length_eq_zero (by omega)
    rw [this]; rfl
  · exact .inr ⟨b, off, rfl, h7⟩

theorem ov_of_own {w : World} {B B' : Nat} {a : Option Addr} {n c : Nat} {xs : List Int} (h : w.ownsRow B 3 1 (.slice a n c) n (iV xs)) (hB : B' ≤ B) (hn : 0 < n) : OV w B' a n c xs := by
  have hl := h.1
  rw [iV_length] at hl
  rcases h.2 with ⟨_, h0⟩ | ⟨g, cap, cur, e, h1, h2, h3, h4, h5, h6⟩
  · omega
  · simp only [Value.slice.injEq, true_and] at e
    obtain ⟨rfl, rfl⟩ := e
    refine ⟨by omega, h3, h4, .inr ⟨g, 0, rfl, by omega, (Array.getElem?_eq_some_iff.1 h2).1, fun j u hu => ?_, fun j hj => ?_⟩⟩
    · have := h.cells (g := g) rfl j u hu
      rwa [add_none] at this
    · have hc := cell_of_row w g (0 + j) cur 3 (0, 0) h2
      rw [hc]
      refine ⟨?_, ?_⟩
      · have : j < cur.size := by omega
        simp [this]
      · simp only [World.frozen?, h2]
        simp

theorem OV.put {w : World} {B : Nat} {b off n c : Nat} {xs : List Int} (h : OV w B (some ⟨b, off, none⟩) n c xs) (hn : n < c) (x : Int) : OV (w.setCell ⟨b, off + n, none⟩ (.int .i64 x)) B (some ⟨b, off, none⟩) (n + 1) c (xs ++ [x]) := by
  obtain ⟨h1, h2, h3, h4⟩ := h
  rcases h4 with ⟨h4, _⟩ | ⟨b', off', e, h5, h6, h7, h8⟩
  · cases h4
  · simp only [Option.some.injEq, Addr.mk.injEq, and_true] at e
    obtain ⟨rfl, rfl⟩ := e
    have hsome : ∃ u, w.cell? ⟨b, off + n, none⟩ = some u := Option.isSome_iff_exists.1 (h8 n hn).1
    obtain ⟨u0, hu0⟩ := hsome
    refine ⟨by simp [h1], hn, h3, .inr ⟨b, off, rfl, h5, by simpa [World.setCell] using h6, fun j u hu => ?_, fun j hj => ?_⟩⟩
    · by_cases e : j = n
      · subst e
        rw [World.cell?_setCell_same _ _ _ hu0]
        have : (iV (xs ++ [x]))[j]? = some (.int .i64 x) := by simp [iV, ← h1]
        rw [this] at hu
        exact hu
      · rw [World.cell?_setCell_other (h := by simp)]
        refine h7 j u ?_
        rw [← hu]
        simp only [iV, List.map_append]
        by_cases hj : j < xs.length
        · rw [List.getElem?_append_left (by simpa using hj)]
        · rw [List.getElem?_eq_none (by simp; omega)] 
          rw [List.getElem?_eq_none (by simp; omega)]
    · by_cases e : j = n
      · subst e
        rw [World.cell?_setCell_same _ _ _ hu0]
        exact ⟨rfl, by simpa using (h8 j hj).2⟩
      · rw [World.cell?_setCell_other (h := by simp)]
        exact ⟨(h8 j hj).1, by simpa using (h8 j hj).2⟩

/-- One number behind it. -/
theorem append_v {w : World} {ops : Array Oper} {rest : List Oper} {o : Oper} {act : Act} {Q : Exit → Act → World → Prop} (hgd : o.guard = none) (s x : Operand)
    (ho : o.op = .call { callee := .builtin .append, args := #[s, x], argTypes := #[38, 38] })
    (B : Nat) (a : Option Addr) (n c : Nat) (xs : List Int) (hs : act.eval s = .slice a n c) (hov : OV w B a n c xs) (hn : n ≤ 1000000) (hB : B ≤ w.heap.size)
    (bk : Nat) (y : Int) (hx : act.eval x = .slice (some ⟨bk, 0, none⟩) 1 1) (hy : Reads w (some ⟨bk, 0, none⟩) (iV [y]))
    (h : ∀ a' c' w', OV w' B a' (n + 1) c' (xs ++ [y]) → w.grownBy w' (blk a) → (blk a' = blk a ∨ ∃ b', blk a' = some b' ∧ w.heap.size ≤ b' ∧ b' < w'.heap.size) → wpList Try.prog ops Q rest (act.put o.dst (.slice a' (n + 1) c')) w') : wpList Try.prog ops Q (o :: rest) act w := by
  obtain ⟨i0, hi, hz0, hz1, hz2⟩ := info_parts Try.info3
  have hyc : ∀ j u, (iV [y])[j]? = some u → w.cell? ((⟨bk, 0, none⟩ : Addr).add j) = some u := by
    rcases hy with e | ⟨b, o, e, hr⟩
    · simp [iV] at e
    · simp only [Option.some.injEq, Addr.mk.injEq, and_true] at e
      obtain ⟨rfl, rfl⟩ := e
      intro j u hu
      rw [add_none]; exact hr j u hu
  have hov' := hov
  obtain ⟨h1, h2, h3, h4⟩ := hov
  rcases h4 with ⟨rfl, rfl⟩ | ⟨b, off, rfl, h5, h6, h7, h8⟩
  · obtain rfl : n = 0 := by omega
    have : xs = [] := List.eq_nil_of_length_eq_zero h1
    subst this
    refine wpList_append_own _ hgd s x 38 ho w.heap.size 3 i0 (.int .i64 0) 1 8 Try.underlying38 hi hz0 hz1 hz2 rfl (by decide) (.slice none 0 0) 0 [] hs (World.ownsRow_nil _ _ _ _) ⟨bk, 0, none⟩ 1 1 (iV [y]) hx rfl hyc (iV_one _) (by unfold maxLen; omega) (by omega) (Nat.le_refl _) ?_
    intro v' w' ho' hg' _
    obtain ⟨a', c', rfl, _, hpos⟩ := own_form ho'
    obtain ⟨g, rfl, hg1, hg2⟩ := hpos (by omega)
    exact h _ c' w' (ov_of_own (xs := [y]) ho' hB (by omega)) hg' (.inr ⟨g, rfl, hg1, hg2⟩)
  · refine wpList_append_arg w hgd s x 38 ho 3 i0 (.int .i64 0) 1 8 Try.underlying38 hi hz0 hz1 hz2 rfl (by decide) b off n c (iV xs) hs (by rw [iV_length]; omega) h7 ⟨bk, 0, none⟩ 1 1 (iV [y]) hx rfl hyc (iV_one _) ?_ (by unfold maxLen; omega) (by omega) ?_ ?_
    · intro hr j hj
      have hj0 : j = 0 := by simp [iV] at hj; omega
      subst hj0
      have := h8 n (by omega)
      simpa using this
    · intro hr
      have hp := hov'.put (by omega) y
      have e : w.setCells b (off + n * 1) (iV [y]) = w.setCell ⟨b, off + n, none⟩ (.int .i64 y) := by simp [iV, World.setCells]
      rw [e]
      exact h _ c _ hp (grown_setCell _ _ _ _) (.inl rfl)
    · intro hr v' w' ho' hg'
      obtain ⟨a', c', rfl, _, hpos⟩ := own_form ho'
      obtain ⟨g, rfl, hg1, hg2⟩ := hpos (by omega)
      have e : iV xs ++ iV [y] = iV (xs ++ [y]) := by simp [iV]
      rw [e] at ho'
      exact h _ c' w' (ov_of_own ho' hB (by omega)) ⟨hg'.os, hg'.tape, hg'.output, hg'.size, fun k hk _ => hg'.block k hk (by simp)⟩ (.inr ⟨g, rfl, hg1, hg2⟩)

namespace dequeAlone

def A (w : World) (r : Option Nat) : Nat → Prop := fun k => k < w.heap.size ∨ r = some k

theorem Dn.app {w0 w w' : World} {cb : Nat} {d : Dq} {r r' : Option Nat} (h : Dn (A w0 r) w cb d) (hg : w.grownBy w' r) (h' : r' = r ∨ ∃ b', r' = some b' ∧ w.heap.size ≤ b' ∧ b' < w'.heap.size) : Dn (A w0 r') w' cb d := by
  have h1 : Dn (A w0 r) w' cb d := by
    cases r with
    | none => exact h.below ⟨hg.os, hg.tape, hg.output, hg.size, fun k hk => hg.block k hk (by simp)⟩
    | some k => exact h.grown (.inr rfl) hg
  rcases h' with rfl | ⟨b', rfl, hb1, hb2⟩
  · exact h1
  · obtain ⟨a1, g0, hM0, a2, a3⟩ := h
    obtain ⟨c1, g, hM, c2, c3⟩ := h1
    have hl := hM0.lt
    have e : g = g0 := by
      have q1 := (hM.bx 2 (by omega)).1
      have hb : w'.heap[cb]? = w.heap[cb]? := hg.block cb hl.1 (fun e => a2 (.inr e.symm))
      have q2 := (hM0.bx 2 (by omega)).1
      rw [World.cell?_of_block (w := w) (a := ⟨cb, 2, none⟩) hb, q2] at q1
      simp [dcell] at q1
      exact q1.symm
    subst e
    refine ⟨fun k hk => ?_, g, hM, ?_, ?_⟩
    · rcases hk with hk | hk
      · exact c1 k (.inl hk)
      · simp at hk; omega
    · rintro (hk | hk)
      · exact c2 (.inl hk)
      · simp at hk; omega
    · rintro (hk | hk)
      · exact c3 (.inl hk)
      · simp at hk; omega

/-- The deque and the row, in memory. -/
structure AM (w wr : World) (cb m : Nat) (d : Dq) (R : List Int) (a : Option Addr) (n c : Nat) (R' : List Int) : Prop where
  bel : Below w.heap.size w wr
  dn : Dn (A w (blk a)) wr cb d
  ov : OV wr w.heap.size a n c R'
  al : Al d R
  sm : Sml m d

theorem AM.after {w wr w' : World} {cb m m' : Nat} {d d' : Dq} {R R2 : List Int} {a : Option Addr} {n c : Nat} {R' : List Int} (h : AM w wr cb m d R a n c R') (hd : Dn (A w (blk a)) w' cb d') (hK : KA (A w (blk a)) wr w') (ha : Al d' R2) (hs : Sml m' d') : AM w w' cb m' d' R2 a n c R' :=
  ⟨hK.below h.bel (Nat.le_refl _) (fun _ hk => .inl hk), hd, h.ov.keep hK.size (fun b e => hK.block b (h.ov.lt e).2 (.inr e)), ha, hs⟩

theorem AM.push {w wr : World} {cb m : Nat} {d : Dq} {R R' : List Int} {a : Option Addr} {n c : Nat} (h : AM w wr cb m d R a n c R') (hm : m ≤ 10000) (i : Int) : Calls Try.prog 23 #[.pointer (some ⟨cb, 0, none⟩), .int .i64 0, .int .i64 1, .int .i64 i] wr fun e w' => ∃ v d', e = .returned (.tuple #[.int .i64 1, .int .i64 v]) ∧ AM w w' cb (m + 12) d' (R ++ [i]) a n c R' := by
  have hb := h.sm.bot
  obtain ⟨h1, h2⟩ := thru_push h.al (by omega) i
  refine (h.dn.thru (h.sm.mono (by omega)) 0 1 i).mono ?_
  rintro e w' ⟨rfl, hd, hK⟩
  rw [h1]
  exact ⟨_, _, rfl, h.after hd hK h2 (h.sm.thru 0 1 i)⟩

theorem AM.pop {w wr : World} {cb m : Nat} {d : Dq} {R R' : List Int} {a : Option Addr} {n c : Nat} (h : AM w wr cb m d R a n c R') (hm : m ≤ 10000) : Calls Try.prog 23 #[.pointer (some ⟨cb, 0, none⟩), .int .i64 0, .int .i64 2, .int .i64 0] wr fun e w' => ∃ x v d' R2, e = .returned (.tuple #[.int .i64 x, .int .i64 v]) ∧ AM w w' cb (m + 12) d' R2 a n c R' ∧ (x = 3 ∧ R = [] ∧ R2 = [] ∨ x = 2 ∧ R = R2 ++ [v]) := by
  have hb := h.sm.bot
  refine (h.dn.thru (h.sm.mono (by omega)) 0 2 0).mono ?_
  rintro e w' ⟨rfl, hd, hK⟩
  have hs := h.sm.thru 0 2 0
  rcases thru_pop h.al (by omega) with ⟨h1, h2, h3⟩ | ⟨R2, x, h1, h2, h3, h4⟩
  · exact ⟨_, _, _, [], rfl, h.after hd hK h3 hs, .inl ⟨h1, h2, rfl⟩⟩
  · exact ⟨_, _, _, R2, rfl, h.after hd hK h4 hs, .inr ⟨h2, by rw [h1, h3]⟩⟩

theorem AM.steal {w wr : World} {cb m : Nat} {d : Dq} {R R' : List Int} {a : Option Addr} {n c : Nat} (h : AM w wr cb m d R a n c R') (hm : m ≤ 10000) (p : Nat) (hp1 : 1 ≤ p) (hp : p < 16) : Calls Try.prog 23 #[.pointer (some ⟨cb, 0, none⟩), .int .i64 (p : Int), .int .i64 3, .int .i64 0] wr fun e w' => ∃ x v d' R2, e = .returned (.tuple #[.int .i64 x, .int .i64 v]) ∧ AM w w' cb (m + 12) d' R2 a n c R' ∧ (x = 3 ∧ R = [] ∧ R2 = [] ∨ x = 2 ∧ R = v :: R2) := by
  have hb := h.sm.bot
  refine (h.dn.thru (h.sm.mono (by omega)) p 3 0).mono ?_
  rintro e w' ⟨rfl, hd, hK⟩
  have hs := h.sm.thru p 3 0
  rcases thru_steal h.al (by omega) p hp1 hp with ⟨h1, h2, h3⟩ | ⟨R2, x, h1, h2, h3, h4⟩
  · exact ⟨_, _, _, [], rfl, h.after hd hK h3 hs, .inl ⟨h1, h2, rfl⟩⟩
  · exact ⟨_, _, _, R2, rfl, h.after hd hK h4 hs, .inr ⟨h2, by rw [h1, h3]⟩⟩

theorem AM.below {w wr w' : World} {cb m : Nat} {d : Dq} {R R' : List Int} {a : Option Addr} {n c : Nat} (h : AM w wr cb m d R a n c R') (hb : Below wr.heap.size wr w') : AM w w' cb m d R a n c R' :=
  ⟨h.bel.trans (hb.mono h.bel.size), h.dn.below hb, h.ov.below hb, h.al, h.sm⟩

theorem AM.app {w wr w' : World} {cb m : Nat} {d : Dq} {R R' R2 : List Int} {a a' : Option Addr} {n c n' c' : Nat} (h : AM w wr cb m d R a n c R') (ho : OV w' w.heap.size a' n' c' R2) (hg : wr.grownBy w' (blk a)) (h' : blk a' = blk a ∨ ∃ b', blk a' = some b' ∧ wr.heap.size ≤ b' ∧ b' < w'.heap.size) : AM w w' cb m d R a' n' c' R2 :=
  ⟨h.bel.grown hg h.bel.size (fun _ hk => (h.ov.lt hk).1), Dn.app h.dn hg h', ho, h.al, h.sm⟩

/-- The row, cut. -/
theorem AM.cut {w wr : World} {cb m : Nat} {d : Dq} {R R' R2 : List Int} {a a' : Option Addr} {n c n' c' : Nat} (h : AM w wr cb m d R a n c R') (ho : OV wr w.heap.size a' n' c' R2) (hb : blk a' = blk a) : AM w wr cb m d R a' n' c' R2 :=
  ⟨h.bel, by rw [hb]; exact h.dn, ho, h.al, h.sm⟩
end dequeAlone

theorem OV.last {w : World} {B b off n c : Nat} {xs : List Int} {x : Int} (h : OV w B (some ⟨b, off, none⟩) n c (xs ++ [x])) : 0 < n ∧ w.cell? ⟨b, off + (n - 1), none⟩ = some (.int .i64 x) ∧ OV w B (some ⟨b, off, none⟩) (n - 1) c xs := by
  obtain ⟨h1, h2, h3, h4⟩ := h
  simp at h1
  rcases h4 with ⟨h4, _⟩ | ⟨b', off', e, h5, h6, h7, h8⟩
  · cases h4
  · simp only [Option.some.injEq, Addr.mk.injEq, and_true] at e
    obtain ⟨rfl, rfl⟩ := e
    refine ⟨by omega, h7 (n - 1) _ ?_, by omega, by omega, h3, .inr ⟨b, off, rfl, h5, h6, fun j u hu => h7 j u ?_, h8⟩⟩
    · have : n - 1 = xs.length := by omega
      rw [this]
      simp [iV]
    · have hj : j < xs.length := by
        rcases Nat.lt_or_ge j xs.length with h | h
        · exact h
        · rw [List.getElem?_eq_none (by simp [iV]; omega)] at hu; cases hu
      rw [← hu]
      simp [iV, List.getElem?_append_left, hj]

theorem OV.first {w : World} {B b off n c : Nat} {xs : List Int} {x : Int} (h : OV w B (some ⟨b, off, none⟩) n c (x :: xs)) : 0 < n ∧ w.cell? ⟨b, off, none⟩ = some (.int .i64 x) ∧ OV w B (some ⟨b, off + 1, none⟩) (n - 1) (c - 1) xs := by
  obtain ⟨h1, h2, h3, h4⟩ := h
  simp at h1
  rcases h4 with ⟨h4, _⟩ | ⟨b', off', e, h5, h6, h7, h8⟩
  · cases h4
  · simp only [Option.some.injEq, Addr.mk.injEq, and_true] at e
    obtain ⟨rfl, rfl⟩ := e
    refine ⟨by omega, h7 0 _ (by simp [iV]), by omega, by omega, by omega, .inr ⟨b, off + 1, rfl, h5, h6, fun j u hu => ?_, fun j hj => ?_⟩⟩
    · have := h7 (j + 1) u (by simpa [iV] using hu)
      rwa [show off + (j + 1) = off + 1 + j by omega] at this
    · have := h8 (j + 1) (by omega)
      rwa [show off + (j + 1) = off + 1 + j by omega] at this

theorem OV.first1 {w : World} {B b off : Nat} {xs : List Int} {x : Int} (h : OV w B (some ⟨b, off, none⟩) 1 1 (x :: xs)) : w.cell? ⟨b, off, none⟩ = some (.int .i64 x) ∧ OV w B (some ⟨b, off, none⟩) 0 0 xs := by
  have h0 := h.first
  obtain ⟨h1, h2, h3, h4⟩ := h
  have hx : xs = [] := by simpa using h1
  subst hx
  refine ⟨h0.2.1, rfl, Nat.le_refl _, Nat.zero_le _, ?_⟩
  rcases h4 with ⟨h4, _⟩ | ⟨b', off', e, h5, h6, h7, h8⟩
  · cases h4
  · exact .inr ⟨b', off', e, h5, h6, fun j u hu => by simp [iV] at hu, fun j hj => by omega⟩

theorem OV.some {w : World} {B n c : Nat} {a : Option Addr} {xs : List Int} (h : OV w B a n c xs) (hn : 0 < n) : ∃ b off, a = .some ⟨b, off, none⟩ := by
  obtain ⟨h1, h2, h3, h4⟩ := h
  rcases h4 with ⟨_, h4⟩ | ⟨b, off, e, _⟩
  · omega
  · exact ⟨b, off, e⟩
end Go.Proofs.Ytaooglcjcnkgnaa
