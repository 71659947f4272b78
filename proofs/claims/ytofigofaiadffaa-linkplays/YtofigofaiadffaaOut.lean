/- Out. -/
import Derived.Test.YtofigofaiadffaaAdr
import Derived.Deep.CutRange
namespace Go.Proofs.Ytofigofaiadffaa
open Go.RowKit Go.ChangeShapes Go.WideShapes Go.ChangeAt Go.Deep

theorem fV_set (l : List Fm) : ∀ (i : Nat) (h : i < l.length) (x0 x1 x2 x4 : Int), ((((fV l).set (i * 6) (.int .i64 x0)).set (i * 6 + 1) (.int .i64 x1)).set (i * 6 + 2) (.int .i64 x2)).set (i * 6 + 4) (.int .i64 x4) = fV (l.set i { l[i] with fr := x0, tt := x1, lf := x2, ak := x4 }) := by
  induction l with
  | nil => intro i h; simp at h
  | cons a r ih =>
    intro i h x0 x1 x2 x4
    have e : fV (a :: r) = .int .i64 a.fr :: .int .i64 a.tt :: .int .i64 a.lf :: .int .i64 a.sq :: .int .i64 a.ak :: .slice a.t.a a.t.len a.t.cap :: fV r := by simp [fV, Fm.cs]
    rw [e]
    cases i with
    | zero => simp [fV, Fm.cs]
    | succ i =>
      have h2 := ih i (by simpa using h) x0 x1 x2 x4
      rw [show (i + 1) * 6 = i * 6 + 1 + 1 + 1 + 1 + 1 + 1 by omega, show i * 6 + 1 + 1 + 1 + 1 + 1 + 1 + 1 = (i * 6 + 1) + 1 + 1 + 1 + 1 + 1 + 1 by omega, show i * 6 + 1 + 1 + 1 + 1 + 1 + 1 + 2 = (i * 6 + 2) + 1 + 1 + 1 + 1 + 1 + 1 by omega, show i * 6 + 1 + 1 + 1 + 1 + 1 + 1 + 4 = (i * 6 + 4) + 1 + 1 + 1 + 1 + 1 + 1 by omega]
      simp only [List.set_cons_succ, List.getElem_cons_succ]
      rw [h2]
      simp [fV, Fm.cs]
theorem fV_at (l : List Fm) : ∀ (k : Nat) (h : k < l.length), (fV l)[k * 6]? = some (.int .i64 l[k].fr) ∧ (fV l)[k * 6 + 1]? = some (.int .i64 l[k].tt) ∧ (fV l)[k * 6 + 2]? = some (.int .i64 l[k].lf) ∧ (fV l)[k * 6 + 3]? = some (.int .i64 l[k].sq) ∧ (fV l)[k * 6 + 4]? = some (.int .i64 l[k].ak) ∧ (fV l)[k * 6 + 5]? = some (.slice l[k].t.a l[k].t.len l[k].t.cap) := by
  induction l with
  | nil => intro k h; simp at h
  | cons a r ih =>
    intro k h
    have e : fV (a :: r) = .int .i64 a.fr :: .int .i64 a.tt :: .int .i64 a.lf :: .int .i64 a.sq :: .int .i64 a.ak :: .slice a.t.a a.t.len a.t.cap :: fV r := by simp [fV, Fm.cs]
    rw [e]
    cases k with
    | zero => simp
    | succ k =>
      have := ih k (by simpa using h)
      rw [show (k + 1) * 6 = k * 6 + 1 + 1 + 1 + 1 + 1 + 1 by omega, show k * 6 + 1 + 1 + 1 + 1 + 1 + 1 + 1 = (k * 6 + 1) + 1 + 1 + 1 + 1 + 1 + 1 by omega, show k * 6 + 1 + 1 + 1 + 1 + 1 + 1 + 2 = (k * 6 + 2) + 1 + 1 + 1 + 1 + 1 + 1 by omega, show k * 6 + 1 + 1 + 1 + 1 + 1 + 1 + 3 = (k * 6 + 3) + 1 + 1 + 1 + 1 + 1 + 1 by omega, show k * 6 + 1 + 1 + 1 + 1 + 1 + 1 + 4 = (k * 6 + 4) + 1 + 1 + 1 + 1 + 1 + 1 by omega, show k * 6 + 1 + 1 + 1 + 1 + 1 + 1 + 5 = (k * 6 + 5) + 1 + 1 + 1 + 1 + 1 + 1 by omega]
      simpa using this
theorem RowF.isAt {B : Nat} {w : World} {a : Option Addr} {n c : Nat} {l : List Fm} (h : RowF B w a n c l) (h0 : 0 < n) : ∃ b, a = some ⟨b, 0, none⟩ ∧ B ≤ b ∧ b < w.heap.size := by
  rcases h.2.1.2 with ⟨e, h1⟩ | ⟨g, cap, cur, e, h1, h2, _⟩
  · omega
  · simp only [Value.slice.injEq] at e
    exact ⟨g, e.1, h1, (Array.getElem?_eq_some_iff.1 h2).1⟩
/-- The cells of the k-th frame. -/
theorem RowF.at {B : Nat} {w : World} {b n c k : Nat} {l : List Fm} (h : RowF B w (some ⟨b, 0, none⟩) n c l) (hk : k < l.length) : w.cell? ⟨b, k * 6, none⟩ = some (.int .i64 l[k].fr) ∧ w.cell? ⟨b, k * 6 + 1, none⟩ = some (.int .i64 l[k].tt) ∧ w.cell? ⟨b, k * 6 + 2, none⟩ = some (.int .i64 l[k].lf) ∧ w.cell? ⟨b, k * 6 + 3, none⟩ = some (.int .i64 l[k].sq) ∧ w.cell? ⟨b, k * 6 + 4, none⟩ = some (.int .i64 l[k].ak) ∧ w.cell? ⟨b, k * 6 + 5, none⟩ = some (.slice l[k].t.a l[k].t.len l[k].t.cap) := by
  obtain ⟨h0, h1, h2, h3, h4, h5⟩ := fV_at l k hk
  have hc := fun j u hu => h.2.1.cells (g := b) rfl j u hu
  simp only [add_none, Nat.zero_add] at hc
  exact ⟨hc _ _ h0, hc _ _ h1, hc _ _ h2, hc _ _ h3, hc _ _ h4, hc _ _ h5⟩
theorem putA_keep {w : World} {b o k : Nat} {x0 x1 x2 x4 : Int} (h : k ≠ b) : (putA w b o x0 x1 x2 x4).heap[k]? = w.heap[k]? := by
  unfold putA
  rw [Below.heap_setCell _ _ _ _ (by exact h), Below.heap_setCell _ _ _ _ (by exact h), Below.heap_setCell _ _ _ _ (by exact h), Below.heap_setCell _ _ _ _ (by exact h)]
theorem putA_size {w : World} {b o : Nat} {x0 x1 x2 x4 : Int} : (putA w b o x0 x1 x2 x4).heap.size = w.heap.size := by
  unfold putA
  rw [size_set, size_set, size_set, size_set]
/-- A frame's whose and acknowledgement are stored. -/
theorem RowF.addr {B : Nat} {w : World} {b n c k : Nat} {l : List Fm} (h : RowF B w (some ⟨b, 0, none⟩) n c l) (hk : k < l.length) (x0 x1 x2 x4 : Int) : RowF B (putA w b (k * 6) x0 x1 x2 x4) (some ⟨b, 0, none⟩) n c (l.set k { l[k] with fr := x0, tt := x1, lf := x2, ak := x4 }) := by
  have ho := ((((h.2.1.stored (k * 6) (.int .i64 x0)).1.stored (k * 6 + 1) (.int .i64 x1)).1.stored (k * 6 + 2) (.int .i64 x2)).1.stored (k * 6 + 4) (.int .i64 x4)).1
  rw [fV_set l k hk] at ho
  refine ⟨by rw [List.length_set]; exact h.1, ho, fun x hx => ?_⟩
  have key : ∀ y ∈ l, TxO (fun k => B ≤ k ∧ k < (putA w b (k * 6) x0 x1 x2 x4).heap.size) (putA w b (k * 6) x0 x1 x2 x4) y.t := fun y hy => ((h.2.2 y hy).keep fun ad e => putA_keep (fun e2 => own_apart (h.2.2 y hy).2.1 h.2.1 (by decide) ad _ e rfl e2)).mono fun q hq => by rw [putA_size]; exact hq
  have key2 : ∀ y ∈ l, TxO (fun q => B ≤ q ∧ q < (putA w b (k * 6) x0 x1 x2 x4).heap.size) (putA w b (k * 6) x0 x1 x2 x4) y.t := fun y hy => ((h.2.2 y hy).keep fun ad e => putA_keep (fun e2 => own_apart (h.2.2 y hy).2.1 h.2.1 (by decide) ad _ e rfl e2)).mono fun q hq => by rw [putA_size]; exact hq
  rcases List.mem_or_eq_of_mem_set hx with h2 | h2
  · exact key2 x h2
  · subst h2
    exact key2 l[k] (List.getElem_mem _)
theorem LinkP.owed {D : Nat → Prop} {w : World} {g : Nat} {s : Lk} (h : LinkP D w g s) (x : Bool) : LinkP D (w.setCell ⟨g, 44, none⟩ (.bool x)) g { s with owed := x } := by
  obtain ⟨m, hc, ho, hr⟩ := h
  have h2 := ho.keep (w' := w.setCell ⟨g, 44, none⟩ (.bool x)) (by rw [size_set]; exact Nat.le_refl _) (fun k _ hk => Below.heap_setCell _ _ _ _ hk)
  exact ⟨_, hc.put_owed x, ⟨h2.dg, h2.dl, h2.o, h2.e⟩, hr.last, hr.used, hr.acked, hr.came, rfl, hr.self, hr.peer, hr.life, hr.theirs, hr.len, hr.op, hr.opb, hr.ea, hr.far⟩
end Go.Proofs.Ytofigofaiadffaa
