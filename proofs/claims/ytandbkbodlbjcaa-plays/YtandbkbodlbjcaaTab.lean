/- A table in memory; its parts' steps. -/
import Derived.Test.YtandbkbodlbjcaaOld
namespace Go.Proofs.Ytandbkbodlbjcaa
open Go.RowKit Go.ChangeShapes Go.WideShapes Go.ChangeAt Go.Deep Go.Maps Go.Sort

/-- A table, plain: ready, going, parked (who, on whom), all, how many there may be; how often one was parked. -/
structure Tb where
  rdy : List ByteArray
  goi : List ByteArray
  prk : List (ByteArray × ByteArray)
  al : List ByteArray
  mx : Int
  wt : Nat
/-- Who is parked on a task. -/
def kids (p : List (ByteArray × ByteArray)) (on : ByteArray) : List ByteArray := (p.filter fun q => decide (q.2 = on)).map Prod.fst

/-- A value, as it is. -/
def heldR (v : Value) : Option (DataW Value × List MemPlace) := some (.held v, [])

def RowM (κ : Cl) (w : World) (v : Value) (L : List ByteArray) : Prop := ∃ a n c, v = .slice a n c ∧ RN w a n c L ∧ (∀ k, blk a = some k → κ k = some .row) ∧ ∀ x ∈ L, x.size ≤ 12
def SetC (κ : Cl) (t : Tag) (w : World) (v : Value) (S : List ByteArray) : Prop := SetM w v S ∧ ∀ k, v = .map (some k) → κ k = some t
def BagM (κ : Cl) (w : World) (v : Value) (p : List (ByteArray × ByteArray)) (N : Nat) : Prop :=
  (∀ q ∈ p, q.1.size ≤ 12 ∧ q.2.size ≤ 12) ∧ ((v = .map none ∧ p = []) ∨ ∃ b D, v = .map (some b) ∧ κ b = some .pk ∧ w.ownsMap Try.prog 31 heldR b (Maps.size D) D ∧ Maps.size D ≤ N ∧
    ∀ on : ByteArray, ∃ a n c, D.atKey (.string on.data.toList) (.held (.slice none 0 0)) = .held (.slice a n c) ∧ RN w a n c (kids p on) ∧ ∀ k, blk a = some k → κ k = some (.bag on))

theorem RowM.keep {κ κ' : Cl} {w w' : World} {v : Value} {L : List ByteArray} (h : RowM κ w v L) (hs : w.heap.size ≤ w'.heap.size) (hk : ∀ k, k < w.heap.size → κ k = some .row → w'.heap[k]? = w.heap[k]? ∧ κ' k = κ k) : RowM κ' w' v L := by
  obtain ⟨a, n, c, e, h1, h2, h3⟩ := h
  exact ⟨a, n, c, e, h1.keep hs (fun b hb => (hk b (h1.lt hb) (h2 b hb)).1), fun k hb => by rw [(hk k (h1.lt hb) (h2 k hb)).2]; exact h2 k hb, h3⟩
theorem SetC.keep {κ κ' : Cl} {t : Tag} {w w' : World} {v : Value} {S : List ByteArray} (h : SetC κ t w v S) (hk : ∀ k, k < w.heap.size → κ k = some t → w'.heap[k]? = w.heap[k]? ∧ κ' k = κ k) : SetC κ' t w' v S := by
  obtain ⟨h1, h2⟩ := h
  refine ⟨h1.keep fun b hb => ?_, fun k hb => ?_⟩
  · subst hb; exact (hk b h1.lt (h2 b rfl)).1
  · subst hb; rw [(hk k h1.lt (h2 k rfl)).2]; exact h2 k rfl
theorem BagM.keep {κ κ' : Cl} {w w' : World} {v : Value} {p : List (ByteArray × ByteArray)} {N : Nat} (h : BagM κ w v p N) (hs : w.heap.size ≤ w'.heap.size) (hk : ∀ k, k < w.heap.size → (κ k = some .pk ∨ ∃ s, κ k = some (.bag s)) → w'.heap[k]? = w.heap[k]? ∧ κ' k = κ k) : BagM κ' w' v p N := by
  refine ⟨h.1, ?_⟩
  rcases h.2 with h1 | ⟨b, D, e, hb, ho, hz, hon⟩
  · exact .inl h1
  · have hb' := hk b ho.lt (.inl hb)
    refine .inr ⟨b, D, e, by rw [hb'.2]; exact hb, ownsMap_keep ho hb'.1, hz, fun on => ?_⟩
    obtain ⟨a, n, c, h1, h2, h3⟩ := hon on
    exact ⟨a, n, c, h1, h2.keep hs (fun k hk' => (hk k (h2.lt hk') (.inr ⟨on, h3 k hk'⟩)).1), fun k hk' => by rw [(hk k (h2.lt hk') (.inr ⟨on, h3 k hk'⟩)).2]; exact h3 k hk'⟩

/-- A table in memory, its blocks in colours. -/
def TabM (κ : Cl) (w : World) (cb : Nat) (T : Tb) : Prop :=
  (∀ k, κ k ≠ none → k < w.heap.size) ∧ κ cb = some .box ∧ ∃ vr vg vp va, BoxL w cb [vr, vg, vp, va, .int .i64 T.mx] ∧ RowM κ w vr T.rdy ∧ SetC κ .go w vg T.goi ∧ BagM κ w vp T.prk T.wt ∧ SetC κ .al w va T.al

theorem TabM.keep {κ : Cl} {w w' : World} {cb : Nat} {T : Tb} (h : TabM κ w cb T) (hs : w.heap.size ≤ w'.heap.size) (hk : ∀ k, k < w.heap.size → κ k ≠ none → w'.heap[k]? = w.heap[k]?) : TabM κ w' cb T := by
  obtain ⟨h1, h2, vr, vg, vp, va, h3, h4, h5, h6, h7⟩ := h
  have q : ∀ k t, k < w.heap.size → κ k = some t → w'.heap[k]? = w.heap[k]? ∧ κ k = κ k := fun k t h e => ⟨hk k h (by rw [e]; simp), rfl⟩
  exact ⟨fun k hk => Nat.lt_of_lt_of_le (h1 k hk) hs, h2, vr, vg, vp, va, h3.keep hs (hk cb h3.1 (by rw [h2]; simp)), h4.keep hs (fun k a b => q k _ a b), h5.keep (fun k a b => q k _ a b), h6.keep hs (fun k a b => by rcases b with b | ⟨s, b⟩ <;> exact q k _ a b), h7.keep (fun k a b => q k _ a b)⟩
theorem TabM.below {κ : Cl} {w w' : World} {cb : Nat} {T : Tb} (h : TabM κ w cb T) (hb : Below w.heap.size w w') : TabM κ w' cb T := h.keep hb.size (fun k hk _ => hb.block k hk)
/-- Another's step. -/
theorem TabM.other {κ κ1 κ2 : Cl} {w w' : World} {cb : Nat} {T : Tb} (h : TabM κ w cb T) (hs : Stp κ1 κ2 w w') (hd : ∀ k, κ k ≠ none → κ1 k = none) : TabM κ w' cb T :=
  h.keep hs.kp.size (fun k hk hc => hs.kp.block k hk (fun e => e (hd k hc)))

theorem tab_has {κ : Cl} {w : World} {cb : Nat} {T : Tb} (h : TabM κ w cb T) (x : ByteArray) (hx : x.size ≤ 1000000) : Calls Try.prog 34 #[.pointer (some ⟨cb, 3, none⟩), .string x] w fun e w' => e = .returned (.bool (inB T.al x)) ∧ Below w.heap.size w w' := by
  obtain ⟨h1, h2, vr, vg, vp, va, h3, h4, h5, h6, h7⟩ := h
  exact has_any w cb 3 va T.al x hx (h3.at rfl).1 h7.1

/-- Who is written and who is not, where a set's field is written. -/
theorem ef_keep {κ κ' : Cl} {t : Tag} {w w' : World} {cb : Nat} {v : Value} {S : List ByteArray} (hc : κ cb = some .box) (hS : SetC κ t w v S) (hE : Ef w w' cb v) (hcol : ∀ k, k < w.heap.size → κ' k = κ k) :
    ∀ k t', k < w.heap.size → κ k = some t' → t' ≠ .box → t' ≠ t → w'.heap[k]? = w.heap[k]? ∧ κ' k = κ k := by
  intro k t' hk e n1 n2
  refine ⟨hE.block k hk (fun e1 => ?_) (fun e1 => ?_), hcol k hk⟩
  · subst e1; rw [hc] at e; cases e; exact n1 rfl
  · have := hS.2 k e1; rw [e] at this; cases this; exact n2 rfl
theorem ef_stp {κ κ' : Cl} {t : Tag} {w w' : World} {cb : Nat} {v : Value} {S : List ByteArray} (hc : κ cb = some .box) (hS : SetC κ t w v S) (hE : Ef w w' cb v) (hcol : ∀ k, k < w.heap.size → κ' k = κ k) : Stp κ κ' w w' :=
  ⟨⟨hE.os, hE.tape, hE.output, hE.size, fun k hk hn => hE.block k hk (fun e => hn (by subst e; rw [hc]; simp)) (fun e => hn (by rw [hS.2 k e]; simp))⟩, hcol⟩
/-- The colours behind a set's step. -/
theorem put_col {κ : Cl} {t : Tag} {w w' : World} {v v' : Value} {S S' : List ByteArray} (hlt : ∀ k, κ k ≠ none → k < w.heap.size) (hs : w.heap.size ≤ w'.heap.size) (hS : SetC κ t w v S) (hS' : SetM w' v' S') (hv : v' = v ∨ ∃ b, v' = .map (some b) ∧ w.heap.size ≤ b ∧ b < w'.heap.size) :
    ∃ κ' : Cl, SetC κ' t w' v' S' ∧ (∀ k, k < w.heap.size → κ' k = κ k) ∧ (∀ k, κ' k ≠ none → k < w'.heap.size) := by
  rcases hv with rfl | ⟨b, rfl, h1, h2⟩
  · exact ⟨κ, ⟨hS', hS.2⟩, fun _ _ => rfl, fun k hk => Nat.lt_of_lt_of_le (hlt k hk) hs⟩
  · refine ⟨paint κ b t, ⟨hS', fun k hk => by cases hk; exact paint_at _ _ _⟩, fun k hk => paint_other (by omega), fun k hk => ?_⟩
    by_cases e : k = b
    · omega
    · rw [paint_other e] at hk; exact Nat.lt_of_lt_of_le (hlt k hk) hs

theorem tab_put {κ : Cl} {w : World} {cb : Nat} {T : Tb} (h : TabM κ w cb T) (x : ByteArray) (hx : x.size ≤ 12) (hn : x ∉ T.al) (hl : T.al.length ≤ 100000) :
    Calls Try.prog 35 #[.pointer (some ⟨cb, 3, none⟩), .string x] w fun e w' => e = .returned (.tuple #[]) ∧ ∃ κ', TabM κ' w' cb { T with al := x :: T.al } ∧ Stp κ κ' w w' := by
  obtain ⟨h1, h2, vr, vg, vp, va, h3, h4, h5, h6, h7⟩ := h
  refine (nput_any w cb 3 _ va T.al x h3 rfl h7.1 hx hn (by omega)).mono ?_
  rintro e w' ⟨rfl, v', hB, hS, hE, hv⟩
  obtain ⟨κ', g1, g2, g3⟩ := put_col h1 hE.size h7 hS hv
  have q := ef_keep h2 h7 hE g2
  refine ⟨rfl, κ', ⟨g3, by rw [g2 cb h3.1]; exact h2, vr, vg, vp, v', hB, h4.keep hE.size (fun k a b => q k _ a b (by simp) (by simp)), h5.keep (fun k a b => q k _ a b (by simp) (by simp)), h6.keep hE.size (fun k a b => ?_), g1⟩, ef_stp h2 h7 hE g2⟩
  rcases b with b | ⟨s, b⟩ <;> exact q k _ a b (by simp) (by simp)

theorem put_start (w : World) (cb : Nat) (x : ByteArray) (R : Ending → World → Prop) (C : Calls Try.prog 35 #[.pointer (some ⟨cb, 1, none⟩), .string x] w R) (hR : ∀ e w', R e w' → e = .returned (.tuple #[])) : Calls Try.prog 41 #[.pointer (some ⟨cb, 1, none⟩), .string x] w R := by
  have HR := hide hR
  clear hR
  go_enter Try.func41, Try.ntmps41
  go_wp2_with (go_at_call 35; go_must ((with_reducible refine C.mono ?_); intro e w1 h1; obtain rfl := HR.out e w1 h1; have H1 := hide h1; clear h1))
  exact bodyPost_end (results_none rfl _ _ _) rfl H1.out

theorem tab_start {κ : Cl} {w : World} {cb : Nat} {T : Tb} (h : TabM κ w cb T) (x : ByteArray) (hx : x.size ≤ 12) (hn : x ∉ T.goi) (hl : T.goi.length ≤ 100000) :
    Calls Try.prog 41 #[.pointer (some ⟨cb, 1, none⟩), .string x] w fun e w' => e = .returned (.tuple #[]) ∧ ∃ κ', TabM κ' w' cb { T with goi := x :: T.goi } ∧ Stp κ κ' w w' := by
  obtain ⟨h1, h2, vr, vg, vp, va, h3, h4, h5, h6, h7⟩ := h
  refine put_start w cb x _ ?_ (fun e w' h => h.1)
  refine (nput_any w cb 1 _ vg T.goi x h3 rfl h5.1 hx hn (by omega)).mono ?_
  rintro e w' ⟨rfl, v', hB, hS, hE, hv⟩
  obtain ⟨κ', g1, g2, g3⟩ := put_col h1 hE.size h5 hS hv
  have q := ef_keep h2 h5 hE g2
  refine ⟨rfl, κ', ⟨g3, by rw [g2 cb h3.1]; exact h2, vr, v', vp, va, hB, h4.keep hE.size (fun k a b => q k _ a b (by simp) (by simp)), g1, h6.keep hE.size (fun k a b => ?_), h7.keep (fun k a b => q k _ a b (by simp) (by simp))⟩, ef_stp h2 h5 hE g2⟩
  rcases b with b | ⟨s, b⟩ <;> exact q k _ a b (by simp) (by simp)

theorem tab_takeA {κ : Cl} {w : World} {cb : Nat} {T : Tb} (h : TabM κ w cb T) (x : ByteArray) (hx : x.size ≤ 1000000) :
    Calls Try.prog 49 #[.pointer (some ⟨cb, 3, none⟩), .string x] w fun e w' => e = .returned (.bool (inB T.al x)) ∧ TabM κ w' cb { T with al := del T.al x } ∧ Stp κ κ w w' := by
  obtain ⟨h1, h2, vr, vg, vp, va, h3, h4, h5, h6, h7⟩ := h
  refine (take_any w cb 3 _ va T.al x h3 rfl h7.1 hx).mono ?_
  rintro e w' ⟨rfl, hB, hS, hE⟩
  have q := ef_keep (κ' := κ) h2 h7 hE (fun _ _ => rfl)
  refine ⟨rfl, ⟨fun k hk => Nat.lt_of_lt_of_le (h1 k hk) hE.size, h2, vr, vg, vp, va, hB, h4.keep hE.size (fun k a b => q k _ a b (by simp) (by simp)), h5.keep (fun k a b => q k _ a b (by simp) (by simp)), h6.keep hE.size (fun k a b => ?_), ⟨hS, h7.2⟩⟩, ef_stp h2 h7 hE (fun _ _ => rfl)⟩
  rcases b with b | ⟨s, b⟩ <;> exact q k _ a b (by simp) (by simp)

theorem take_stop (w : World) (cb : Nat) (x : ByteArray) (q : Bool) (R : World → Prop) (C : Calls Try.prog 49 #[.pointer (some ⟨cb, 1, none⟩), .string x] w fun e w' => e = .returned (.bool q) ∧ R w') : Calls Try.prog 43 #[.pointer (some ⟨cb, 1, none⟩), .string x] w fun e w' => e = .returned (.bool q) ∧ R w' := by
  go_enter Try.func43, Try.ntmps43
  go_wp2_with (go_at_call 49; go_must ((with_reducible refine C.mono ?_); rintro e w1 ⟨rfl, h1⟩; have H1 := hide h1; clear h1))
  go_ret
  exact ⟨rfl, H1.out⟩

theorem tab_stop {κ : Cl} {w : World} {cb : Nat} {T : Tb} (h : TabM κ w cb T) (x : ByteArray) (hx : x.size ≤ 1000000) :
    Calls Try.prog 43 #[.pointer (some ⟨cb, 1, none⟩), .string x] w fun e w' => e = .returned (.bool (inB T.goi x)) ∧ TabM κ w' cb { T with goi := del T.goi x } ∧ Stp κ κ w w' := by
  obtain ⟨h1, h2, vr, vg, vp, va, h3, h4, h5, h6, h7⟩ := h
  refine take_stop w cb x _ _ ?_
  refine (take_any w cb 1 _ vg T.goi x h3 rfl h5.1 hx).mono ?_
  rintro e w' ⟨rfl, hB, hS, hE⟩
  have q := ef_keep (κ' := κ) h2 h5 hE (fun _ _ => rfl)
  refine ⟨rfl, ⟨fun k hk => Nat.lt_of_lt_of_le (h1 k hk) hE.size, h2, vr, vg, vp, va, hB, h4.keep hE.size (fun k a b => q k _ a b (by simp) (by simp)), ⟨hS, h5.2⟩, h6.keep hE.size (fun k a b => ?_), h7.keep (fun k a b => q k _ a b (by simp) (by simp))⟩, ef_stp h2 h5 hE (fun _ _ => rfl)⟩
  rcases b with b | ⟨s, b⟩ <;> exact q k _ a b (by simp) (by simp)

/-- Who is written and who is not, where the row is written. -/
theorem rw_keep {κ κ' : Cl} {w w' : World} {cb : Nat} {a : Option Addr} (hc : κ cb = some .box) (ha : ∀ k, blk a = some k → κ k = some .row) (hE : Rw w w' cb (blk a)) (hcol : ∀ k, k < w.heap.size → κ' k = κ k) :
    ∀ k t', k < w.heap.size → κ k = some t' → t' ≠ .box → t' ≠ .row → w'.heap[k]? = w.heap[k]? ∧ κ' k = κ k := by
  intro k t' hk e n1 n2
  refine ⟨hE.block k hk ?_, hcol k hk⟩
  rintro (e1 | e1)
  · subst e1; rw [hc] at e; cases e; exact n1 rfl
  · have := ha k e1; rw [e] at this; cases this; exact n2 rfl
theorem rw_stp {κ κ' : Cl} {w w' : World} {cb : Nat} {a : Option Addr} (hc : κ cb = some .box) (ha : ∀ k, blk a = some k → κ k = some .row) (hE : Rw w w' cb (blk a)) (hcol : ∀ k, k < w.heap.size → κ' k = κ k) : Stp κ κ' w w' :=
  ⟨hE.mono (fun k _ h => by
    rcases h with rfl | h
    · rw [hc]; simp
    · rw [ha k h]; simp), hcol⟩
theorem row_ne {κ : Cl} {cb : Nat} {a : Option Addr} (hc : κ cb = some .box) (ha : ∀ k, blk a = some k → κ k = some .row) : ∀ b, blk a = some b → b ≠ cb := fun b hb e => by
  have := ha b hb
  rw [e, hc] at this
  cases this

theorem tab_line {κ : Cl} {w : World} {cb : Nat} {T : Tb} (h : TabM κ w cb T) (x : ByteArray) (hx : x.size ≤ 12) (hl : T.rdy.length ≤ 100000) :
    Calls Try.prog 37 #[.pointer (some ⟨cb, 0, none⟩), .string x] w fun e w' => e = .returned (.tuple #[]) ∧ ∃ κ', TabM κ' w' cb { T with rdy := T.rdy ++ [x] } ∧ Stp κ κ' w w' := by
  obtain ⟨h1, h2, vr, vg, vp, va, h3, ⟨a, n, c, rfl, r1, r2, r3⟩, h5, h6, h7⟩ := h
  have hn := r1.1
  refine (line_any w cb 0 _ a n c T.rdy x h3 rfl r1 (row_ne h2 r2) (by omega)).mono ?_
  rintro e w' ⟨rfl, a', c', hB, hR, hE, hw⟩
  obtain ⟨κ', g1, g2, g3⟩ : ∃ κ' : Cl, (∀ k, blk a' = some k → κ' k = some .row) ∧ (∀ k, k < w.heap.size → κ' k = κ k) ∧ (∀ k, κ' k ≠ none → k < w'.heap.size) := by
    rcases hw with e | ⟨b, e, b1, b2⟩
    · exact ⟨κ, fun k hk => r2 k (by rw [← e]; exact hk), fun _ _ => rfl, fun k hk => Nat.lt_of_lt_of_le (h1 k hk) hE.size⟩
    · refine ⟨paint κ b .row, fun k hk => by rw [e] at hk; cases hk; exact paint_at _ _ _, fun k hk => paint_other (by omega), fun k hk => ?_⟩
      by_cases e : k = b
      · omega
      · rw [paint_other e] at hk; exact Nat.lt_of_lt_of_le (h1 k hk) hE.size
  have q := rw_keep h2 r2 hE g2
  refine ⟨rfl, κ', ⟨g3, by rw [g2 cb h3.1]; exact h2, _, vg, vp, va, hB, ⟨a', n + 1, c', rfl, hR, g1, fun y hy => ?_⟩, h5.keep (fun k a b => q k _ a b (by simp) (by simp)), h6.keep hE.size (fun k a b => ?_), h7.keep (fun k a b => q k _ a b (by simp) (by simp))⟩, rw_stp h2 r2 hE g2⟩
  · rcases List.mem_append.1 hy with hy | hy
    · exact r3 y hy
    · simp at hy; subst hy; exact hx
  · rcases b with b | ⟨s, b⟩ <;> exact q k _ a b (by simp) (by simp)

/-- newest's and oldest's answers. -/
def TNew (κ : Cl) (w : World) (cb : Nat) (T : Tb) (e : Ending) (w' : World) : Prop :=
  (T.rdy = [] ∧ e = .returned (.tuple #[.string ⟨#[]⟩, .bool false]) ∧ w' = w) ∨ ∃ L x, T.rdy = L ++ [x] ∧ x.size ≤ 12 ∧ e = .returned (.tuple #[.string x, .bool true]) ∧ TabM κ w' cb { T with rdy := L } ∧ Stp κ κ w w'
def TOld (κ : Cl) (w : World) (cb : Nat) (T : Tb) (e : Ending) (w' : World) : Prop :=
  (T.rdy = [] ∧ e = .returned (.tuple #[.string ⟨#[]⟩, .bool false]) ∧ w' = w) ∨ ∃ L x, T.rdy = x :: L ∧ x.size ≤ 12 ∧ e = .returned (.tuple #[.string x, .bool true]) ∧ TabM κ w' cb { T with rdy := L } ∧ Stp κ κ w w'

theorem tab_newest {κ : Cl} {w : World} {cb : Nat} {T : Tb} (h : TabM κ w cb T) (hl : T.rdy.length ≤ 100000) : Calls Try.prog 40 #[.pointer (some ⟨cb, 0, none⟩)] w (TNew κ w cb T) := by
  obtain ⟨h1, h2, vr, vg, vp, va, h3, ⟨a, n, c, rfl, r1, r2, r3⟩, h5, h6, h7⟩ := h
  have hn := r1.1
  refine (newest_any w cb 0 _ a n c T.rdy h3 rfl r1 (row_ne h2 r2) (by omega)).mono ?_
  rintro e w' (⟨e1, rfl, rfl⟩ | ⟨L0, x, eL, rfl, hB, hR, hE⟩)
  · exact .inl ⟨e1, rfl, rfl⟩
  · have q := rw_keep (κ' := κ) h2 r2 hE (fun _ _ => rfl)
    rw [eL] at r3
    refine .inr ⟨L0, x, eL, r3 x (by simp), rfl, ⟨fun k hk => Nat.lt_of_lt_of_le (h1 k hk) hE.size, h2, _, vg, vp, va, hB, ⟨a, n - 1, c, rfl, hR, r2, fun y hy => r3 y (by simp [hy])⟩, h5.keep (fun k a b => q k _ a b (by simp) (by simp)), h6.keep hE.size (fun k a b => ?_), h7.keep (fun k a b => q k _ a b (by simp) (by simp))⟩, rw_stp h2 r2 hE (fun _ _ => rfl)⟩
    rcases b with b | ⟨s, b⟩ <;> exact q k _ a b (by simp) (by simp)
theorem tab_oldest {κ : Cl} {w : World} {cb : Nat} {T : Tb} (h : TabM κ w cb T) (hl : T.rdy.length ≤ 100000) : Calls Try.prog 48 #[.pointer (some ⟨cb, 0, none⟩)] w (TOld κ w cb T) := by
  obtain ⟨h1, h2, vr, vg, vp, va, h3, ⟨a, n, c, rfl, r1, r2, r3⟩, h5, h6, h7⟩ := h
  have hn := r1.1
  refine (oldest_any w cb 0 _ a n c T.rdy h3 rfl r1 (row_ne h2 r2) (by omega)).mono ?_
  rintro e w' (⟨e1, rfl, rfl⟩ | ⟨L0, x, a', eL, rfl, hB, hR, ha, hE⟩)
  · exact .inl ⟨e1, rfl, rfl⟩
  · have q := rw_keep (κ' := κ) h2 r2 hE (fun _ _ => rfl)
    rw [eL] at r3
    refine .inr ⟨L0, x, eL, r3 x (by simp), rfl, ⟨fun k hk => Nat.lt_of_lt_of_le (h1 k hk) hE.size, h2, _, vg, vp, va, hB, ⟨a', n - 1, c - 1, rfl, hR, fun k hk => r2 k (by rw [← ha]; exact hk), fun y hy => r3 y (by simp [hy])⟩, h5.keep (fun k a b => q k _ a b (by simp) (by simp)), h6.keep hE.size (fun k a b => ?_), h7.keep (fun k a b => q k _ a b (by simp) (by simp))⟩, rw_stp h2 r2 hE (fun _ _ => rfl)⟩
    rcases b with b | ⟨s, b⟩ <;> exact q k _ a b (by simp) (by simp)

theorem tab_ready {κ : Cl} {w : World} {cb : Nat} {T : Tb} (h : TabM κ w cb T) (hl : T.rdy.length ≤ 100000) : Calls Try.prog 27 #[.pointer (some ⟨cb, 0, none⟩)] w fun e w' => ∃ v, e = .returned v ∧ w'.ownsRow w.heap.size 31 1 v T.rdy.length (nV T.rdy) ∧ Below w.heap.size w w' := by
  obtain ⟨h1, h2, vr, vg, vp, va, h3, ⟨a, n, c, rfl, r1, r2, r3⟩, h5, h6, h7⟩ := h
  have hn := r1.1
  rw [hn]
  exact ready_any w cb 0 a n c T.rdy (h3.at rfl).1 r1 (by omega) r3
end Go.Proofs.Ytandbkbodlbjcaa
