/- loads, begins: two rows of loads that are one. -/
import Derived.Test.YtofigofaiadffaaBrM
namespace Go.Proofs.Ytofigofaiadffaa
open Go.RowKit Go.ChangeShapes Go.WideShapes Go.ChangeAt Go.Deep

/-- A row of loads that is read. -/
def RowL (w : World) (a : Option Addr) (n : Nat) (l : List Txt) : Prop := l.length = n ∧ Reads w a (sV l) ∧ ∀ t ∈ l, Txt.ok w t
theorem RowL.below {w w' : World} {a : Option Addr} {n : Nat} {l : List Txt} (h : RowL w a n l) (hb : Below w.heap.size w w') : RowL w' a n l := ⟨h.1, h.2.1.below hb, fun t ht => (h.2.2 t ht).below hb⟩
theorem TxO.ok {D : Nat → Prop} {w : World} {t : Txt} (h : TxO D w t) : Txt.ok w t := ⟨h.1.1, h.1.2.1, h.reads.2.2, h.reads.2.1, h.reads.1⟩
theorem RowL.at {w : World} {a : Option Addr} {n : Nat} {l : List Txt} (h : RowL w a n l) {k : Nat} (hk : k < l.length) : ∃ b off, a = some ⟨b, off, none⟩ ∧ w.cell? ⟨b, off + k, none⟩ = some (.slice l[k].a l[k].len l[k].cap) := by
  rcases h.2.1 with e | ⟨b, off, e, hr⟩
  · have := congrArg List.length e
    simp [sV] at this
    subst this
    simp at hk
  · exact ⟨b, off, e, hr k _ (by simp [sV, Txt.val, hk])⟩
theorem RowL.str {w : World} {a : Option Addr} {n : Nat} {l : List Txt} (h : RowL w a n l) {k : Nat} (hk : k < l.length) (W : World) (hW : W.heap = w.heap) : (convert 32 9 (.slice l[k].a l[k].len l[k].cap)).run Try.prog W = .ok (.string (bstr l[k].bs)) W := by
  have hz := h.2.2 l[k] (List.getElem_mem _)
  refine run_str rfl hz.1 ?_ l[k].cap
  rcases hz.2.2.2.2 with h | ⟨b, o, e, h⟩
  · exact .inl h
  · refine .inr ⟨b, o, e, fun j u hu => ?_⟩
    have := h j u hu
    unfold World.cell? at this ⊢
    rw [hW]; exact this
set_option linter.unusedSimpArgs false in
set_option maxRecDepth 100000 in
set_option maxHeartbeats 4000000 in
theorem loads_yes (w : World) (a a' : Option Addr) (n c n' c' : Nat) (l l' : List Txt) (h : RowL w a n l) (h' : RowL w a' n' l') (he : l.map Txt.bs = l'.map Txt.bs) (hn : n ≤ 1000000) :
    Calls Try.prog 20 #[.slice a n c, .slice a' n' c'] w fun e w' => e = .returned (.bool true) ∧ Below w.heap.size w w' := by
  have hl := h.1
  have hl' := h'.1
  have hnn : n = n' := by have := congrArg List.length he; simp at this; omega
  subst hnn
  have HR := hide h
  have HR' := hide h'
  have HE := hide (fun k (h1 : k < l.length) (h2 : k < l'.length) => show l[k].bs = l'[k].bs by
    have h3 := congrArg (fun z => z[k]?) he
    simp [h1, h2] at h3
    exact h3)
  have HL := hide hl
  have HL' := hide hl'
  have q : ((n : Int) == (n : Int)) = true := by simp
  clear h h' he hl hl'
  go_enter Try.func20, Try.ntmps20
  go_wp2
  go_loopw [5] (fun i wr => Hid (Below w.heap.size w wr) ∧ ∃ (k : Nat), k ≤ n ∧ i = .int .i64 (k : Nat)) (fun i _ => n - (intOf i).toNat)
  case atStart => exact ⟨hide (Below.refl _ _), 0, Nat.zero_le _, rfl⟩
  case round =>
    obtain ⟨HB, k, hk, rfl⟩ := hrel
    by_cases hlt : k < n
    · have hka : k < l.length := by have := HL.out; omega
      have hkb : k < l'.length := by have := HL'.out; omega
      have hra := HR.out.below HB.out
      have hrb := HR'.out.below HB.out
      obtain ⟨g, off, har, y2⟩ := hra.at hka
      obtain ⟨g', off', hbr, z2⟩ := hrb.at hkb
      subst har
      subst hbr
      have t0 := fun j => hra.str hka (wr.drewN j) rfl
      have t1 := fun j => hrb.str hkb (wr.drewN j) rfl
      have hlt' : (k : Int) < (n : Int) := by omega
      rw [← HE.out k hka hkb] at t1
      generalize bstr l[k].bs = S at t0 t1
      generalize l[k].a = xa at y2 t0
      generalize l[k].len = xn at y2 t0
      generalize l[k].cap = xc at y2 t0
      generalize l'[k].a = xa' at z2 t1
      generalize l'[k].len = xn' at z2 t1
      generalize l'[k].cap = xc' at z2 t1
      clear hra hrb hka hkb
      go_wp2_with fail
      go_big_quiet (fail)
      go_wp2_with fail
      go_roundw
      case rel => exact ⟨hide (below_drewN HB.out _), k + 1, by omega, by go_num⟩
      case measure => simp [intOf]; omega
    · obtain rfl : k = n := by omega
      have hlt' : ¬ (k : Int) < (k : Int) := by omega
      go_wp2
      go_ret
      exact ⟨rfl, HB.out⟩
theorem slice_toT (w : World) (a : Option Addr) (n c k : Nat) (hk : k ≤ c) : (Instr.slice 56 (.slice a n c) none (some (.int .i64 (k : Int))) none).run Try.prog w = .ok (.slice a k c) w := by
  simp [Instr.slice, run_underlying Try.underlying56, Instr.sliceBounds, run_sliceBound (P := Try.prog) w .i64 (k : Int) c .sliceAcap (by omega) (by omega)]
  cases a <;> simp [Addr.add_zero']
theorem RowL.take {w : World} {a : Option Addr} {n k : Nat} {l : List Txt} (h : RowL w a n l) (hk : k ≤ n) : RowL w a k (l.take k) := by
  refine ⟨by rw [List.length_take, h.1]; omega, ?_, fun t ht => h.2.2 t (List.mem_of_mem_take ht)⟩
  rcases h.2.1 with e | ⟨b, off, e, hr⟩
  · left
    have : l = [] := by simpa [sV] using e
    subst this
    simp [sV]
  · right
    refine ⟨b, off, e, fun j u hu => hr j u ?_⟩
    simp only [sV, List.map_take, List.getElem?_take] at hu
    split at hu
    · exact hu
    · cases hu
set_option linter.unusedSimpArgs false in
set_option maxRecDepth 100000 in
set_option maxHeartbeats 4000000 in
theorem begins_yes (w : World) (a a' : Option Addr) (n c n' c' : Nat) (l l' : List Txt) (h : RowL w a n l) (h' : RowL w a' n' l') (hle : n ≤ n') (hc : n' ≤ c') (he : l.map Txt.bs = (l'.map Txt.bs).take n) (hn : n' ≤ 1000000) :
    Calls Try.prog 25 #[.slice a n c, .slice a' n' c'] w fun e w' => e = .returned (.bool true) ∧ Below w.heap.size w w' := by
  have C20 := hide (loads_yes w a a' n c n c' l (l'.take n) h (h'.take hle) (by rw [he, List.map_take]) (by omega))
  have kt := fun W => slice_toT W a' n' c' n (by omega)
  have hle' : (n : Int) ≤ (n' : Int) := by omega
  clear h h' he
  go_enter Try.func25, Try.ntmps25
  go_wp2_with (go_at_call 20; go_must ((with_reducible refine C20.out.mono ?_); rintro e w1 ⟨rfl, hb1⟩))
  go_ret
  exact ⟨rfl, hb1⟩
end Go.Proofs.Ytofigofaiadffaa
