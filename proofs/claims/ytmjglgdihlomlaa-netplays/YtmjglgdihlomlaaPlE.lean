/- NetPlays: Send by both, of a row of one's own; the loop that turns its bytes. -/
import Derived.Test.YtmjglgdihlomlaaPlD
namespace Go.Proofs.Ytmjglgdihlomlaa
namespace netPlays
open Go.RowKit Go.ChangeShapes Go.WideShapes Go.ChangeAt Go.Deep

theorem G.bel {w0 w : World} {nb ob rb ab : Nat} {xs : List Value} {Ln Lr : List Pc} (h : G w0 w nb ob rb ab xs Ln Lr) : Below w0.heap.size w0 w := by
  obtain ⟨D1, D2, D3, h⟩ := h
  exact h.bel
theorem GS.ofN' {w0 w w' : World} {nb ob rb ab : Nat} {xs : List Value} {Ln Ln' Lr : List Pc} {D1 D2 D3 : Nat → Prop} (h : GS w0 w nb ob rb ab xs Ln Lr D1 D2 D3) (hn : NetP (Ex D1 w w') w' nb Ln') (hk : Kp D1 w w') : GS w0 w' nb ob rb ab xs Ln' Lr (Ex D1 w w') D2 D3 := by
  obtain ⟨LO, ho, hl⟩ := h.o
  have hab := h.box.1
  have hs := h.bel.size
  exact ⟨hn, ⟨LO, ho.other hk fun k hd e => h.d12 k e hd, hl⟩, h.r.other hk fun k hd e => h.d13 k e hd, fun k hd hd2 => hd.elim (fun q => h.d12 k q hd2) fun q => by have := ho.lt k hd2; omega, fun k hd hd2 => hd.elim (fun q => h.d13 k q hd2) fun q => by have := h.r.lt k hd2; omega, h.d23, fun k hd => hd.elim (h.e1 k) fun q => ⟨by omega, by omega⟩, h.e2, h.e3, h.lo, box_hold h.box hk.size (hk.block ab hab fun e => (h.e1 ab e).2 rfl), h.bel.trans (hk.to_below hs fun k e => (h.e1 k e).1)⟩
theorem GS.ofR' {w0 w w' : World} {nb ob rb ab : Nat} {xs : List Value} {Ln Lr Lr' : List Pc} {D1 D2 D3 : Nat → Prop} (h : GS w0 w nb ob rb ab xs Ln Lr D1 D2 D3) (hn : NetR (Ex D3 w w') w' rb Lr') (hk : Kp D3 w w') : GS w0 w' nb ob rb ab xs Ln Lr' D1 D2 (Ex D3 w w') := by
  obtain ⟨LO, ho, hl⟩ := h.o
  have hab := h.box.1
  have hs := h.bel.size
  exact ⟨h.n.other hk fun k hd e => h.d13 k hd e, ⟨LO, ho.other hk fun k hd e => h.d23 k hd e, hl⟩, hn, h.d12, fun k hd hd2 => hd2.elim (fun q => h.d13 k hd q) fun q => by have := h.n.lt k hd; omega, fun k hd hd2 => hd2.elim (fun q => h.d23 k hd q) fun q => by have := ho.lt k hd; omega, h.e1, h.e2, fun k hd => hd.elim (h.e3 k) fun q => ⟨by omega, by omega⟩, h.lo, box_hold h.box hk.size (hk.block ab hab fun e => (h.e3 ab e).2 rfl), h.bel.trans (hk.to_below hs fun k e => (h.e3 k e).1)⟩
/-- A row of one's own in the blocks from B up to B1. -/
def RowG (B B1 : Nat) (w : World) (a : Option Addr) (n c : Nat) (l : List Pm) : Prop := RowO (fun k => B ≤ k ∧ k < B1) w a n c l ∧ ∀ x ∈ l, w.ownsRow B 5 1 (.slice x.a x.n x.c) x.n (bV x.p.2.2)
theorem RowG.f {B B1 : Nat} {w : World} {a : Option Addr} {n c : Nat} {l : List Pm} (h : RowG B B1 w a n c l) (hB : B1 ≤ w.heap.size) : RowF B w a n c l := ⟨h.1.mono fun _ hk => ⟨hk.1, Nat.lt_of_lt_of_le hk.2 hB⟩, h.2⟩
theorem RowG.keep {B B1 : Nat} {w w' : World} {a : Option Addr} {n c : Nat} {l : List Pm} (h : RowG B B1 w a n c l) (hB : B1 ≤ w.heap.size) (hk : ∀ k, B ≤ k → k < B1 → w'.heap[k]? = w.heap[k]?) : RowG B B1 w' a n c l :=
  ⟨h.1.keep (fun _ hk => Nat.lt_of_lt_of_le hk.2 hB) (fun k hd _ => hk k hd.1 hd.2), fun x hx => own_keep (h.2 x hx) fun ad e => by have hd := (h.1.1.2.2.2.2.2 x hx).2.2.2.2.2 ad e; exact hk _ hd.1 hd.2⟩
/-- The nets, and beside them a row of one's own in the blocks from B up to B1. -/
def SA (w0 w : World) (nb ob rb ab : Nat) (xs : List Value) (Ln Lr : List Pc) (B B1 : Nat) : Prop := ∃ D1 D2 D3, GS w0 w nb ob rb ab xs Ln Lr D1 D2 D3 ∧ (∀ k, D1 k ∨ D2 k ∨ D3 k → ¬ (B ≤ k ∧ k < B1)) ∧ ab < B ∧ w0.heap.size ≤ B ∧ B1 ≤ w.heap.size
theorem SA.g {w0 w : World} {nb ob rb ab : Nat} {xs : List Value} {Ln Lr : List Pc} {B B1 : Nat} (h : SA w0 w nb ob rb ab xs Ln Lr B B1) : G w0 w nb ob rb ab xs Ln Lr := by
  obtain ⟨D1, D2, D3, h, _⟩ := h
  exact ⟨D1, D2, D3, h⟩
theorem SA.le {w0 w : World} {nb ob rb ab : Nat} {xs : List Value} {Ln Lr : List Pc} {B B1 : Nat} (h : SA w0 w nb ob rb ab xs Ln Lr B B1) : B1 ≤ w.heap.size := by
  obtain ⟨D1, D2, D3, _, _, _, _, h⟩ := h
  exact h
/-- A byte of the row of one's own is turned. -/
theorem SA.put {w0 w : World} {nb ob rb ab : Nat} {xs : List Value} {Ln Lr : List Pc} {B B1 : Nat} (h : SA w0 w nb ob rb ab xs Ln Lr B B1) {g : Nat} (hg : B ≤ g ∧ g < B1) (j : Nat) (v : Value) : SA w0 (w.setCell ⟨g, j, none⟩ v).drew nb ob rb ab xs Ln Lr B B1 := by
  obtain ⟨D1, D2, D3, h, hd, ha, hw, hB⟩ := h
  obtain ⟨LO, ho, hl⟩ := h.o
  have hs : w.heap.size ≤ (w.setCell ⟨g, j, none⟩ v).drew.heap.size := by simp [World.setCell]
  have hk : ∀ k, k ≠ g → (w.setCell ⟨g, j, none⟩ v).drew.heap[k]? = w.heap[k]? := fun k hk => Below.heap_setCell _ _ _ _ hk
  have hb : Below w0.heap.size w (w.setCell ⟨g, j, none⟩ v).drew := (below_put v (by omega)).drew
  have hd' : ∀ k, D1 k ∨ D2 k ∨ D3 k → k ≠ g := fun k hk e => hd k hk (e ▸ hg)
  exact ⟨D1, D2, D3, ⟨h.n.keep hs fun k q _ => hk k (hd' k (.inl q)), ⟨LO, ho.keep hs fun k q _ => hk k (hd' k (.inr (.inl q))), hl⟩, h.r.keep hs fun k q _ => hk k (hd' k (.inr (.inr q))), h.d12, h.d13, h.d23, h.e1, h.e2, h.e3, h.lo, box_hold h.box hs (hk ab (by omega)), h.bel.trans hb⟩, hd, ha, hw, Nat.le_trans hB hs⟩
/-- Send, by both: n gets a row of one's own. -/
theorem step_send2 {w0 w : World} {nb ob rb ab : Nat} {xs : List Value} {L : List Pc} {B : Nat} (h : GX w0 w nb ob rb ab xs L B) (ok : Ok L) (a : Option Addr) (n c : Nat) (l : List Pm) (hr : RowP (OldB w0) w0 a n c l) (hn : n ≤ 20) (hz : ∀ x ∈ l, x.n ≤ 200) (hw : ∀ x ∈ l, wfP x.p)
    (a' : Option Addr) (n' c' : Nat) (l' : List Pm) (hr' : RowF B w a' n' c' l') (he : l'.map Pm.p = l.map Pm.p) : ∃ L' v, Ok L' ∧ Calls Try.prog 10 #[.pointer (some ⟨nb, 0, none⟩), .slice a' n' c'] w (fun e w' => e = .returned (.int .i64 v) ∧ SA w0 w' nb ob rb ab xs L' L B w.heap.size ∧ RowG B w.heap.size w' a' n' c' l') ∧ ∀ W, SA w0 W nb ob rb ab xs L' L B w.heap.size → RowG B w.heap.size W a' n' c' l' → Calls Try.prog 11 #[.pointer (some ⟨rb, 0, none⟩), .slice a n c] W fun e w' => e = .returned (.int .i64 v) ∧ SA w0 w' nb ob rb ab xs L' L' B w.heap.size ∧ RowG B w.heap.size w' a' n' c' l' := by
  have hz2 : ∀ p ∈ l.map Pm.p, wfP p ∧ p.2.2.length ≤ 200 := fun p hp => by
    obtain ⟨x, hx, rfl⟩ := List.mem_map.1 hp
    exact ⟨hw x hx, by have := (hr.2.2.2.2.2 x hx).1; have := hz x hx; omega⟩
  have hn' : n' = n := by
    have h1 := hr.1
    have h2 := hr'.1.1.1
    have := congrArg List.length he
    simp only [List.length_map] at this
    omega
  have hG : RowG B w.heap.size w a' n' c' l' := hr'
  refine ⟨L ++ (l.map Pm.p).take (10000 - L.length), ((min (l.map Pm.p).length (10000 - L.length) : Nat) : Int), ok.app (fun p hp => ?_) ?_, ?_, fun W hW hGW => ?_⟩
  · have := hz2 p (List.mem_of_mem_take hp)
    exact ⟨this.1, by omega⟩
  · have := ok.len
    rw [List.length_take]
    omega
  · obtain ⟨D1, D2, D3, hs, hd, hab, hw0, hBw⟩ := h
    have hz' : ∀ x ∈ l', x.n ≤ 1000000 := fun x hx => by
      have h1 := (hz2 x.p (by rw [← he]; exact List.mem_map_of_mem hx)).2
      have h2 := (hr'.1.1.2.2.2.2.2 x hx).1
      omega
    refine (send_any D1 (fun k => B ≤ k ∧ k < w.heap.size) w nb L a' n' c' l' hs.n ok.len hr'.1.1.weak (fun k hk hd1 => by have := hd k (.inl hd1); omega) (by omega) hz').mono ?_
    rintro e w' ⟨rfl, hnn, hkp⟩
    rw [he] at hnn
    refine ⟨by rw [he], ⟨_, D2, D3, hs.ofN' hnn hkp, fun k hk hA => ?_, hab, hw0, hkp.size⟩, hG.keep (Nat.le_refl _) fun k h1 h2 => hkp.block k h2 fun e => by have := hd k (.inl e); omega⟩
    rcases hk with hk | hk
    · rcases hk with hk | hk
      · have := hd k (.inl hk); omega
      · omega
    · have := hd k (.inr hk); omega
  · obtain ⟨E1, E2, E3, hs, hd, hab, hw0, hBw⟩ := hW
    refine (rsend_any E3 (OldB w0) W rb L a n c l hs.r ok.len (hr.keep fun k hk _ => hs.bel.block k hk) (fun k hk hd => by have := (hs.e3 k hd).1; unfold OldB at hk; omega) (by omega) fun x hx => by have := hz x hx; omega).mono ?_
    rintro e w' ⟨rfl, hnn, hkp⟩
    refine ⟨rfl, ⟨E1, E2, _, hs.ofR' hnn hkp, fun k hk hA => ?_, hab, hw0, Nat.le_trans hBw hkp.size⟩, hGW.keep hBw fun k h1 h2 => hkp.block k (Nat.lt_of_lt_of_le h2 hBw) fun e => hd k (.inr (.inr e)) ⟨h1, h2⟩⟩
    rcases hk with hk | hk | hk
    · exact hd k (.inl hk) hA
    · exact hd k (.inr (.inl hk)) hA
    · rcases hk with hk | hk
      · exact hd k (.inr (.inr hk)) hA
      · omega
theorem GX.lows {w0 w : World} {nb ob rb ab : Nat} {xs : List Value} {L : List Pc} {B : Nat} (h : GX w0 w nb ob rb ab xs L B) : ab < B ∧ w0.heap.size ≤ B ∧ B ≤ w.heap.size := by
  obtain ⟨D1, D2, D3, _, _, h1, h2, h3⟩ := h
  exact ⟨h1, h2, h3⟩
theorem RowG.blocks {B B1 : Nat} {w : World} {a : Option Addr} {n c : Nat} {l : List Pm} (h : RowG B B1 w a n c l) : ∀ y ∈ l, ∀ ad, y.a = some ad → B ≤ ad.block ∧ ad.block < B1 := fun y hy => (h.1.1.2.2.2.2.2 y hy).2.2.2.2.2
end netPlays
end Go.Proofs.Ytmjglgdihlomlaa
