/- LinkPlays: what each act's two calls do, told at once. -/
import Derived.Test.YtofigofaiadffaaRpm
namespace Go.Proofs.Ytofigofaiadffaa
open Go.RowKit Go.ChangeShapes Go.WideShapes Go.ChangeAt Go.Deep
namespace linkPlays

def LQ (v : Value) (D : Nat → Prop) (w : World) (g : Nat) (s : Lk) (e : Ending) (w' : World) : Prop := e = .returned v ∧ LinkP (Ex D w w') w' g s ∧ Kp (fun j => j = g) w w'
def RQ (v : Value) (E : Nat → Prop) (w : World) (g : Nat) (k : Kc) (r : Rl) (e : Ending) (w' : World) : Prop := e = .returned v ∧ RLk (Ex E w w') w' g k r ∧ Kp E w w'
/-- Send. -/
theorem send_two {s : Lk} {k : Kc} {r : Rl} {n : Nat} (h : LR s k r n) (hn : n ≤ 200) (gx gr : Nat) (x : List Nat) (m : Nat) (hm : m ≤ 5000) (hl : x.length = m) (hB : Byt x) :
    ∃ ev s' r', LR s' k r' (n + 1) ∧
      (∀ D W a c, LinkP D W gx s → Reads W a (bV x) → (a = none → m = 0 ∧ c = 0) → (∀ ad, a = some ad → 0 < m → ad.block ≠ gx) → Calls Try.prog 12 #[.pointer (some ⟨gx, 0, none⟩), .slice a m c] W (LQ (.int .i64 ev) D W gx s')) ∧
      (∀ E W a c, RLk E W gr k r → Reads W a (bV x) → (a = none → m = 0 ∧ c = 0) → (∀ ad, a = some ad → 0 < m → ad.block ≠ gr) → Calls Try.prog 14 #[.pointer (some ⟨gr, 0, none⟩), .slice a m c] W (RQ (.int .i64 ev) E W gr k r')) := by
  obtain ⟨h1, h2⟩ := h.send x
  have hu : s.used ≤ 1000000 := by have := h.b1; unfold Lk.used; omega
  have hs : r.seq ≤ 1000000 := by have := h.b1; have := h.seq; omega
  refine ⟨sendE s x, sendL s x, rsendL k r x, h2, fun D W a c hL hr hnil hne => (send_any D gx s a m c x W hL hu hl hB hr hnil hne).mono fun e w' q => q, fun E W a c hR hr hnil hne => ?_⟩
  have := rsend_any E gr k r a m c x W hR hs hl hB hr hnil hne (by omega)
  refine this.mono fun e w' q => ?_
  obtain ⟨q1, q2⟩ := q
  exact ⟨by rw [q1, h1], q2⟩

def OQ (L : List Fr) (D : Nat → Prop) (w : World) (g : Nat) (s : Lk) (e : Ending) (w' : World) : Prop := ∃ a c l, e = .returned (.slice a L.length c) ∧ RowF w.heap.size w' a L.length c l ∧ l.map Fm.p = L ∧ LinkP D w' g s ∧ Kp (fun j => j = g) w w'
def ROQ' (L : List Fr) (E : Nat → Prop) (w : World) (g : Nat) (k : Kc) (r : Rl) (e : Ending) (w' : World) : Prop := ∃ a c l, e = .returned (.slice a L.length c) ∧ RowF w.heap.size w' a L.length c l ∧ l.map Fm.p = L ∧ RLk E w' g k r ∧ Kp E w w'
theorem dueF_len (now : Int) : ∀ (n : Nat) (l : List Op), (dueF now n l).length ≤ l.length
  | _, [] => Nat.le_refl _
  | n, o :: l => by
    have := dueF_len now (n + 1) l
    unfold dueF
    split <;> simp <;> omega
/-- Out. -/
theorem out_two {s : Lk} {k : Kc} {r : Rl} {n : Nat} (h : LR s k r n) (hn : n ≤ 200) (h8 : s.op.length ≤ 8) (gx gr : Nat) (now : Int) (hn1 : -(2 ^ 61) ≤ now) (hn2 : now ≤ 2 ^ 61) :
    ∃ s' r' L, L.length ≤ 10 ∧ LR s' k r' (n + 1) ∧
      (∀ D W, LinkP D W gx s → Calls Try.prog 15 #[.pointer (some ⟨gx, 0, none⟩), .int .i64 now] W (OQ L D W gx s')) ∧
      (∀ E W, RLk E W gr k r → Calls Try.prog 17 #[.pointer (some ⟨gr, 0, none⟩), .int .i64 now] W (ROQ' L E W gr k r')) := by
  obtain ⟨h1, h2⟩ := h.out now hn1 hn2
  have hu : s.used ≤ 1000000 := by have := h.b1; unfold Lk.used; omega
  refine ⟨outL s now, routL now r, outF s now, ?_, h2, fun D W hL => (out_any D gx s now W hL hu (by unfold I64; omega)).mono fun e w' q => ?_, fun E W hR => (rout_any E gr k r now W hR (by rw [h.len]; omega) (fun i hi => by have := h.b4 r.op[i] (List.getElem_mem _); exact ⟨by omega, this.2⟩)).mono fun e w' q => ?_⟩
  · unfold outF
    rw [List.length_map]
    unfold outP
    have := dueF_len now (s.acked + 1) s.op
    simp only
    split
    · simp
    · omega
  · obtain ⟨a, m, c, l, rfl, q1, q2, q3⟩ := q
    have hm : m = (outF s now).length := by rw [← q1.1, ← q2, List.length_map]
    subst hm
    exact ⟨a, c, l, rfl, q1, q2, q3⟩
  · obtain ⟨a, m, c, l, rfl, q1, q2, q3⟩ := q
    rw [h1] at q2
    have hm : m = (outF s now).length := by rw [← q1.1, ← q2, List.length_map]
    subst hm
    exact ⟨a, c, l, rfl, q1, q2, q3⟩

def IQ (q : Bool) (L : List (List Nat)) (D : Nat → Prop) (w : World) (g : Nat) (s : Lk) (e : Ending) (w' : World) : Prop := ∃ a m c l, e = .returned (.tuple #[.slice a m c, .bool q]) ∧ RowT (fun j => Ex D w w' j ∧ j ≠ g) w.heap.size w' a m c l ∧ l.map Txt.bs = L ∧ LinkP (Ex D w w') w' g s ∧ Kp (fun j => j = g) w w'
def RIQ (q : Bool) (L : List (List Nat)) (E : Nat → Prop) (w : World) (g : Nat) (k : Kc) (r : Rl) (e : Ending) (w' : World) : Prop := ∃ a m c l, e = .returned (.tuple #[.slice a m c, .bool q]) ∧ RowT (fun j => j ≠ g) w.heap.size w' a m c l ∧ l.map Txt.bs = L ∧ RLk (Ex E w w') w' g k r ∧ Kp E w w'
theorem inF_len (s : Lk) (f : Fr) : (inF s f).length ≤ 8 := by
  unfold inF
  split
  · split
    · simp
    · unfold accF
      split
      · simp
      · exact ordF_len _ _ _
  · simp
/-- In. -/
theorem in_two {s : Lk} {k : Kc} {r : Rl} {n : Nat} (h : LR s k r n) (hn : n ≤ 200) (gx gr : Nat) (f : Fr) (m : Nat) (hl : f.x.length = m) (hB : Byt f.x) (hi : I64 f.sq) :
    ∃ q s' r' L, L.length ≤ 8 ∧ LR s' k r' (n + 1) ∧
      (∀ D W a c, LinkP D W gx s → Reads W a (bV f.x) → (a = none → m = 0 ∧ c = 0) → (∀ ad, a = some ad → 0 < m → ad.block ≠ gx) → Calls Try.prog 18 #[.pointer (some ⟨gx, 0, none⟩), .agg #[.int .i64 f.fr, .int .i64 f.tt, .int .i64 f.lf, .int .i64 f.sq, .int .i64 f.ak, .slice a m c]] W (IQ q L D W gx s')) ∧
      (∀ E W a c, RLk E W gr k r → Reads W a (bV f.x) → (a = none → m = 0 ∧ c = 0) → (∀ ad, a = some ad → 0 < m → ¬ E ad.block) → Calls Try.prog 19 #[.pointer (some ⟨gr, 0, none⟩), .agg #[.int .i64 f.fr, .int .i64 f.tt, .int .i64 f.lf, .int .i64 f.sq, .int .i64 f.ak, .slice a m c]] W (RIQ q L E W gr k r')) := by
  obtain ⟨h1, h2⟩ := h.inn f
  have hu : s.used ≤ 1000000 := by have := h.b1; unfold Lk.used; omega
  have hcm : s.came ≤ 1000000 := by have := h.b2; omega
  refine ⟨forB s f, inL s f, rinL k r f, inF s f, inF_len s f, h2, fun D W a c hL hr hnil hne => (in_any D gx s f a m c W hL hu hcm hl hB hr hnil hne).mono fun e w' q => q, fun E W a c hR hr hnil hne => ?_⟩
  have hC : Calls Try.prog 19 #[.pointer (some ⟨gr, 0, none⟩), .agg #[.int .i64 f.fr, .int .i64 f.tt, .int .i64 f.lf, .int .i64 f.sq, .int .i64 f.ak, .slice a m c]] W (RInQ E W gr k r f) := by
    cases hF : rforB k r f with
    | false => exact rin_no E gr k r f a m c W hR hl hF
    | true => exact rin_yes E gr k r f a m c W hR hl hF hB hr hnil (by have := h.b1; rw [h.len]; omega) (by have := h.b3; omega) (by have := h.b2; rw [h.all]; omega) hi.2 hne
  refine hC.mono fun e w' q => ?_
  obtain ⟨a', m', c', l, rfl, q1, q2, q3⟩ := q
  rw [h1] at q2
  rw [h.forr f]
  exact ⟨a', m', c', l, rfl, q1, q2, q3⟩
end linkPlays
end Go.Proofs.Ytofigofaiadffaa
