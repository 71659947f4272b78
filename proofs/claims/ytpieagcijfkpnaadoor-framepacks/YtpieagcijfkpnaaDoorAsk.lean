/- What a cursor's calls come to, as one sentence each. -/
import Derived.Test.YtpieagcijfkpnaaDoorCal
namespace Go.Proofs.YtpieagcijfkpnaaDoor
open Go.RowKit

theorem Cur.grown_none {w w' : World} {B T c : Nat} {bs : List Nat} {bad : Bool} (h : Cur w B T c bs bad) (hg : w.grownBy w' none) : Cur w' B T c bs bad := by
  have h' := h
  obtain ⟨a, cap, _, _, _, _, _, _, _, _, _, _, hT⟩ := h'
  exact h.keep hg.size (fun k _ hk => hg.block k (by omega) (by simp))

theorem Cur.spoiled {w : World} {B T c : Nat} {bs : List Nat} {bad : Bool} (h : Cur w B T c bs bad) :
    Cur ((w.setCell ⟨c, 0, none⟩ (.slice none 0 0)).setCell ⟨c, 1, none⟩ (.bool true)) B T c [] true := by
  obtain ⟨a, cap, h1, h2, h3, h4, h5, h6, h7, h8, h9, h10, h11⟩ := h
  have e0 : (w.setCell ⟨c, 0, none⟩ (.slice none 0 0)).cell? ⟨c, 1, none⟩ = some (.bool bad) := by
    rw [World.cell?_setCell_other (h := by simp)]; exact h2
  refine ⟨none, 0, ?_, ?_, ?_, ?_, by simp, by omega, (fun x hx => by cases hx), .inl rfl, h9, h10, by simpa [World.setCell] using h11⟩
  · rw [World.cell?_setCell_other (h := by simp)]
    simpa using World.cell?_setCell_same _ _ _ h1
  · simpa using World.cell?_setCell_same _ _ _ e0
  · simpa using h3
  · simpa using h4

theorem CurA.skipped {w : World} {B T c : Nat} {bs : List Nat} {bad : Bool} {a : Option Addr} {cap : Nat} (h : CurA w B T c a cap bs bad) (k : Nat) (_hk : k ≤ bs.length)
    {a' : Option Addr} {cap' : Nat} (h1' : bs.length - k ≤ cap') (h2' : cap' ≤ cap) (ha : k < bs.length → a' = a.map (·.add k)) :
    Cur (w.setCell ⟨c, 0, none⟩ (.slice a' (bs.length - k) cap')) B T c (bs.drop k) bad := by
  obtain ⟨h1, h2, h3, h4, h5, h6, h7, h8, h9, h10, h11⟩ := h
  refine ⟨a', cap', ?_, ?_, ?_, ?_, by simpa using h1', by omega, h7.drop k, ?_, h9, h10, by simpa [World.setCell] using h11⟩
  · simpa using World.cell?_setCell_same _ _ _ h1
  · rw [World.cell?_setCell_other (h := by simp)]; exact h2
  · simpa using h3
  · simpa using h4
  · exact (h8.drop k ha).keep (fun j _ _ hj => Below.heap_setCell _ _ _ _ hj)


theorem first_bad (a : Option Addr) (len cap : Nat) (bs : List Nat) (w : World) (hl : bs.length = len) (hB : Byt bs) (hlen : len ≤ 140737488355328) (hr : Reads w a (bV bs)) (hd : dec bs = none) :
    Calls Tryd.prog 42 #[.slice a len cap] w fun e w' => e = .returned (.tuple #[.int .u64 0, .int .i64 0]) ∧ w' = w := by
  refine (first_any a len cap bs w hl hB hlen hr).mono ?_
  rintro e w' ⟨rfl, rfl⟩
  rw [hd]
  exact ⟨rfl, rfl⟩

theorem first_good (a : Option Addr) (len cap : Nat) (bs : List Nat) (u k : Nat) (w : World) (hl : bs.length = len) (hB : Byt bs) (hlen : len ≤ 140737488355328) (hr : Reads w a (bV bs)) (hd : dec bs = some (u, k)) :
    Calls Tryd.prog 42 #[.slice a len cap] w fun e w' => e = .returned (.tuple #[.int .u64 (u : Nat), .int .i64 (k : Nat)]) ∧ w' = w := by
  refine (first_any a len cap bs w hl hB hlen hr).mono ?_
  rintro e w' ⟨rfl, rfl⟩
  rw [hd]
  exact ⟨rfl, rfl⟩

set_option maxRecDepth 100000 in
set_option maxHeartbeats 400000 in
/-- Cursor.Int. -/
theorem curInt_any (B T c : Nat) (bs : List Nat) (bad : Bool) (w : World) (h : Cur w B T c bs bad) :
    Calls Tryd.prog 37 #[.pointer (some ⟨c, 0, none⟩)] w fun e w' => e = .returned (.int .i64 (rdInt bs bad).1) ∧ Cur w' B T c (rdInt bs bad).2.1 (rdInt bs bad).2.2 ∧ w.grownBy w' (some c) := by
  have hC := h
  obtain ⟨a, cap, h1, h2, h3, h4, h5, h6, h7, h8, h9, h10, h11⟩ := h
  cases hd : dec bs with
  | none =>
    have HR := hide (show rdInt bs bad = (0, [], true) by simp [rdInt, hd])
    have HD := hide hd
    clear hd
    go_enter Tryd.func37, Tryd.ntmps37
    go_wp2_with (first | (go_at_call 42; go_must (refine (first_bad a _ cap bs _ rfl h7 (by omega) h8.reads HD.out).mono ?_; rintro e w' ⟨rfl, rfl⟩)) | (go_at_call 43; go_must (refine (spoil_any c _ _ _ h1 h2 h3 h4).mono ?_; rintro e w2 ⟨rfl, rfl⟩)))
    go_ret
    rw [HR.out]
    exact ⟨rfl, hC.spoiled, grown_trans (grown_setCell _ _ _ _) (grown_setCell _ _ _ _)⟩
  | some uk =>
    obtain ⟨u, k⟩ := uk
    obtain ⟨hu, hk1, hkl, hk10⟩ := dec_facts bs u k hd
    have hk0 : ((k : Int) == 0) = false := by rw [beq_eq_false_iff_ne]; omega
    have HR := hide (show rdInt bs bad = (unfoldN u, bs.drop k, bad) by simp [rdInt, hd])
    have HD := hide hd
    clear hd
    go_enter Tryd.func37, Tryd.ntmps37
    go_wp2_with (first | (go_at_call 42; go_must (refine (first_good a _ cap bs u k _ rfl h7 (by omega) h8.reads HD.out).mono ?_; rintro e w' ⟨rfl, rfl⟩)) | (go_at_call 44; go_must (refine (skip_any c a _ cap k _ h1 h3 hkl h5 (by omega)).mono ?_; rintro e w2 ⟨rfl, a', cap', rfl, hs1, hs2, hs3⟩)) | (go_at_call 45; go_must (refine (unfold_any u _ hu).mono ?_; rintro e w3 ⟨rfl, rfl⟩)))
    go_ret
    rw [HR.out]
    exact ⟨rfl, CurA.skipped (bad := bad) ⟨h1, h2, h3, h4, h5, h6, h7, h8, h9, h10, h11⟩ k hkl hs1 hs2 hs3, grown_setCell _ _ _ _⟩

set_option maxRecDepth 100000 in
set_option maxHeartbeats 400000 in
/-- New: a cursor over a copy. -/
theorem new_any (a : Option Addr) (len cap : Nat) (xs : List Nat) (w : World) (hl : xs.length = len) (hB : Byt xs) (hr : Reads w a (bV xs)) (hlen : len ≤ 140737488355328) :
    Calls Tryd.prog 25 #[.slice a len cap] w fun e w' => ∃ c, e = .returned (.pointer (some ⟨c, 0, none⟩)) ∧ Cur w' w.heap.size w'.heap.size c xs false ∧ Below w.heap.size w w' := by
  go_enter Tryd.func25, Tryd.ntmps25
  go_wp2_with (go_at_call 33; go_must (refine (copyOf_any a len cap xs _ hl hr hlen).mono ?_; rintro e w1 ⟨rfl, ho1, hb1⟩))
  go_ret
  have hsz := hb1.size
  have hlt := (ho1.lt w.heap.size rfl).2
  refine ⟨w1.heap.size, rfl, ⟨some ⟨w.heap.size, 0, none⟩, len, ?_, ?_, ?_, ?_, by omega, by omega, hB, .inr ⟨_, _, rfl, Nat.le_refl _, by simp; omega, by omega, ?_⟩, by omega, by simp, Nat.le_refl _⟩, hb1.alloc hsz _⟩
  · rw [World.cell?_alloc_at _ _ _ _ rfl, hl]; rfl
  · rw [World.cell?_alloc_at _ _ _ _ rfl]; rfl
  · exact World.frozen?_alloc_at _ _ _ _ rfl
  · exact World.frozen?_alloc_at _ _ _ _ rfl
  · intro j u hu
    rw [World.cell?_alloc_past _ _ _ hlt]
    have := ho1.cells (g := w.heap.size) rfl j u hu
    rwa [add_none] at this

end Go.Proofs.YtpieagcijfkpnaaDoor
