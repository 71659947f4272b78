/- DequeOnce answers true. -/
import Derived.Test.YtaooglcjcnkgnaaIts
import Derived.Test.YtaooglcjcnkgnaaOnc
import Derived.Test.YtaooglcjcnkgnaaArg
namespace Go.Proofs.Ytaooglcjcnkgnaa
open Go.RowKit Go.ChangeShapes Go.WideShapes Go.ChangeAt Go.Deep

theorem acts_at {w : World} {d : Option Addr} {l : List (Int × Int × Int)} {k : Nat} (h : ActsM w d l) (hk : k < l.length) : ∃ b off wy i v, d = some ⟨b, off, none⟩ ∧ w.cell? ⟨b, off + k * 3, none⟩ = some (.int .i64 wy) ∧ w.cell? ⟨b, off + k * 3 + 1, none⟩ = some (.int .i64 i) ∧ w.cell? ⟨b, off + k * 3 + 2, none⟩ = some (.int .i64 v) := by
  rcases h with h | ⟨b, off, e, h⟩
  · subst h; simp at hk
  · obtain ⟨h1, h2, h3⟩ := h k l[k] (by simp [hk])
    exact ⟨b, off, _, _, _, e, h1, h2, h3⟩

namespace dequeOnce

def A (w : World) (tb : Nat) : Nat → Prop := fun k => k < w.heap.size ∨ k = tb

/-- Between two acts, in memory. -/
structure OM (w wr : World) (cb tb len i : Nat) (d : Dq) (X : List Int) (nx : Nat) : Prop where
  bel : Below w.heap.size w wr
  dn : Dn (A w tb) wr cb d
  own : wr.ownsRow w.heap.size 3 1 (.slice (some ⟨tb, 0, none⟩) 1000 1000) 1000 (iV (tk 1000 X))
  oi : OI i d X nx
  pr : Pr 16 len i d

theorem OM.start {w w2 w3 : World} {cb len : Nat} (hb : Below w.heap.size w w2) (hd : Dn (fun k => k < w.heap.size) w2 cb Dq.zero) (ho : w3.ownsRow w2.heap.size 3 1 (.slice (some ⟨w2.heap.size, 0, none⟩) 1000 1000) 1000 (madeCells (Value.int IntKind.i64 0).cells (1000 * 1)).toList) (hg : w2.grownBy w3 none) : OM w w3 cb w2.heap.size len 0 Dq.zero [] 1 := by
  have h3 := below_of hg
  refine ⟨hb.trans (h3.mono hb.size), hd.more h3 (Nat.le_refl _) (ho.lt _ rfl).2, ?_, OI.zero, Pr.early (Nat.zero_le _) Sml.zero⟩
  rw [made_zeros, ← tk_nil] at ho
  exact own_mono3 ho hb.size

/-- The same beside a box of its own: memory alone. -/
structure Boxed (w : World) (cb tb : Nat) (V : World) (ab : Nat) (xs : List Value) (d : Dq) (X : List Int) : Prop where
  bel : Below w.heap.size w V
  dn : Dn (fun k => A w tb k ∨ k = ab) V cb d
  own : V.ownsRow w.heap.size 3 1 (.slice (some ⟨tb, 0, none⟩) 1000 1000) 1000 (iV (tk 1000 X))
  bx : BoxL V ab xs

theorem OM.box {w wr V : World} {cb tb len i : Nat} {d : Dq} {X : List Int} {nx : Nat} (h : OM w wr cb tb len i d X nx) {xs : List Value} {t : TypeId} (hV : V = wr.alloc (.cells xs.toArray t)) : Boxed w cb tb V wr.heap.size xs d X ∧ w.heap.size ≤ wr.heap.size ∧ tb ≠ wr.heap.size := by
  subst hV
  have hb := below_new wr (.cells xs.toArray t)
  have := (h.own.lt tb rfl).2
  exact ⟨⟨h.bel.trans (hb.mono h.bel.size), h.dn.more hb (Nat.le_refl _) (by simp), own_below h.own hb, BoxL.new _ _ _⟩, h.bel.size, by omega⟩

/-- A cell of the box is written. -/
theorem Boxed.put {w V : World} {cb tb ab : Nat} {d : Dq} {X : List Int} {xs : List Value} (h : Boxed w cb tb V ab xs d X) (hab : w.heap.size ≤ ab) (ht : tb ≠ ab) (j : Nat) (v : Value) : Boxed w cb tb (V.setCell ⟨ab, j, none⟩ v) ab (xs.set j v) d X := by
  have hg := grown_setCell V ab j v
  exact ⟨h.bel.grown hg h.bel.size (fun k hk => by cases hk; exact hab), h.dn.grown (.inr rfl) hg, h.own.kept hg (.inr (by simpa [Value.ownBlock] using ht)), h.bx.put j v⟩

theorem Boxed.after {w V V' : World} {cb tb ab : Nat} {d d' : Dq} {X : List Int} {xs : List Value} (h : Boxed w cb tb V ab xs d X) (hd : Dn (fun k => A w tb k ∨ k = ab) V' cb d') (hK : KA (fun k => A w tb k ∨ k = ab) V V') : Boxed w cb tb V' ab xs d' X :=
  ⟨hK.below h.bel (Nat.le_refl _) (fun k hk => .inl (.inl hk)), hd, hK.own h.own (fun g hg => by simp [Value.ownBlock] at hg; exact .inl (.inr hg.symm)), h.bx.keep hK.size (hK.block ab h.bx.1 (.inr rfl))⟩

theorem Boxed.begin {w V : World} {cb tb ab : Nat} {d : Dq} {X : List Int} {xs : List Value} (h : Boxed w cb tb V ab xs d X) (who kind item : Int) : Calls Try.prog 13 #[.pointer (some ⟨cb, 0, none⟩), .int .i64 who, .int .i64 kind, .int .i64 item] V fun e w' => e = .returned (.int .i64 (beginD d who kind item).1) ∧ Boxed w cb tb w' ab xs (beginD d who kind item).2 X := by
  refine (h.dn.begin who kind item).mono ?_
  rintro e w' ⟨rfl, hd, hK⟩
  exact ⟨rfl, h.after hd hK⟩

theorem Boxed.step {w V : World} {cb tb ab : Nat} {d : Dq} {X : List Int} {xs : List Value} (h : Boxed w cb tb V ab xs d X) (hs : Sml 999999 d) (who : Int) : Calls Try.prog 14 #[.pointer (some ⟨cb, 0, none⟩), .int .i64 who] V fun e w' => e = .returned (.tuple #[.int .i64 (stepD d who).1, .int .i64 (stepD d who).2.1]) ∧ Boxed w cb tb w' ab xs (stepD d who).2.2 X := by
  refine (h.dn.step hs who).mono ?_
  rintro e w' ⟨rfl, hd, hK⟩
  exact ⟨rfl, h.after hd hK⟩

theorem Boxed.om {w V : World} {cb tb ab : Nat} {d : Dq} {X : List Int} {xs : List Value} (h : Boxed w cb tb V ab xs d X) {len i nx : Nat} (ho : OI i d X nx) (hp : Pr 16 len i d) : OM w V cb tb len i d X nx :=
  ⟨h.bel, h.dn.less (fun _ hk => .inl hk), h.own, ho, hp⟩

theorem OM.took {w V : World} {tb cb len i nx vn : Nat} {d : Dq} {X : List Int} (hbl : Below w.heap.size w V) (hd : Dn (A w tb) V cb d) (ho : V.ownsRow w.heap.size 3 1 (.slice (some ⟨tb, 0, none⟩) 1000 1000) 1000 (iV (tk 1000 X))) (hv : X.count (vn : Int) = 0) (hvn : vn < 1000) (hoi : OI i d ((vn : Int) :: X) nx) (hp : Pr 16 len i d) :
    V.cell? ⟨tb, vn, none⟩ = some (.int .i64 0) ∧ V.frozen? ⟨tb, vn, none⟩ = false ∧ OM w (V.setCell ⟨tb, vn, none⟩ (.int .i64 1)) cb tb len i d ((vn : Int) :: X) nx := by
  have hs := ho.stored vn (.int .i64 1)
  refine ⟨?_, ho.frozenAt vn, ?_⟩
  · rw [ho.cellAt vn (by omega)]
    simp [iV, tk, hvn, hv]
  · refine ⟨hbl.grown hs.2 hbl.size (fun k hk => own_low ho k hk), hd.grown (.inr rfl) hs.2, ?_, hoi, hp⟩
    have e : (iV (tk 1000 X)).set vn (.int .i64 1) = iV (tk 1000 ((vn : Int) :: X)) := by
      rw [← tk_set 1 (by rw [hv]; rfl)]
      simp [iV, List.map_set]
    rw [← e]
    exact hs.1

/-- What is left is looked at: the first j of it are. -/
structure LM (w wr : World) (tb : Nat) (lv : Value) (m : Nat) (H X : List Int) (j : Nat) : Prop where
  bel : Below w.heap.size w wr
  lf : wr.ownsRow (tb + 1) 3 1 lv m (iV H)
  tk : wr.ownsRow w.heap.size 3 1 (.slice (some ⟨tb, 0, none⟩) 1000 1000) 1000 (iV (tk 1000 (H.take j ++ X)))

theorem LM.next {w wr : World} {tb : Nat} {a : Option Addr} {m c : Nat} {H X : List Int} {j nx : Nat} (h : LM w wr tb (.slice a m c) m H X j) (hA : Acc H X nx) (hj : j < m) (hnx : nx ≤ 900) :
    ∃ g v : Nat, a = some ⟨g, 0, none⟩ ∧ 1 ≤ v ∧ v < nx ∧ m ≤ c ∧ wr.cell? ⟨g, j, none⟩ = some (.int .i64 (v : Int)) ∧ wr.cell? ⟨tb, v, none⟩ = some (.int .i64 0) ∧ wr.frozen? ⟨tb, v, none⟩ = false ∧ LM w (wr.setCell ⟨tb, v, none⟩ (.int .i64 1)) tb (.slice a m c) m H X (j + 1) := by
  obtain ⟨a', c', e, hc, hr, hl, hg⟩ := own_reads h.lf
  simp only [Value.slice.injEq, true_and] at e
  obtain ⟨rfl, rfl⟩ := e
  obtain ⟨g, rfl, hg1, hg2⟩ := hg (by omega)
  have hjl : j < H.length := by omega
  obtain ⟨h1, h2, h3⟩ := hA.next hjl
  obtain ⟨v, hv⟩ : ∃ v : Nat, H[j] = v := ⟨H[j].toNat, by omega⟩
  rw [hv] at h1 h2 h3
  have hs := h.tk.stored v (.int .i64 1)
  refine ⟨g, v, rfl, by omega, by omega, hc, ?_, ?_, h.tk.frozenAt v, ?_, ?_, ?_⟩
  · rw [h.lf.cellAt j (by omega)]
    simp [iV, hjl, hv]
  · rw [h.tk.cellAt v (by omega)]
    have : v < 1000 := by omega
    have e3 : List.count (v : Int) (H.take j) = 0 ∧ List.count (v : Int) X = 0 := by rw [List.count_append] at h3; omega
    simp [iV, Go.Proofs.Ytaooglcjcnkgnaa.tk, this, e3.1, e3.2]
  · exact h.bel.grown hs.2 h.bel.size (fun k hk => own_low h.tk k hk)
  · exact h.lf.kept hs.2 (.inr (by simp [Value.ownBlock]; omega))
  · have e : (iV (Go.Proofs.Ytaooglcjcnkgnaa.tk 1000 (H.take j ++ X))).set v (.int .i64 1) = iV (Go.Proofs.Ytaooglcjcnkgnaa.tk 1000 (H.take (j + 1) ++ X)) := by
      rw [← tk_next hjl, hv, ← tk_set 1 (by rw [h3]; rfl)]
      simp [iV, List.map_set]
    rw [← e]
    exact hs.1

theorem own_up {w : World} {b b' n : Nat} {v : Value} {xs : List Value} (h : w.ownsRow b 3 1 v n xs) (hb : b' ≤ b) : w.ownsRow b' 3 1 v n xs := own_mono3 h hb

theorem OM.left {w wr : World} {cb tb n : Nat} {d : Dq} {X : List Int} {nx : Nat} (h : OM w wr cb tb n (n + 100) d X nx) : Acc (itemsD d) X nx := h.oi.last h.pr (by omega) (by omega)

theorem LM.start {w wr w' : World} {cb tb n i nx : Nat} {d : Dq} {X : List Int} {a : Option Addr} {m c : Nat} (h : OM w wr cb tb n i d X nx) (ho : w'.ownsRow wr.heap.size 3 1 (.slice a m c) m (iV (itemsD d))) (hb : Below wr.heap.size wr w') : LM w w' tb (.slice a m c) m (itemsD d) X 0 := by
  have hlt := (h.own.lt tb rfl).2
  exact ⟨h.bel.trans (hb.mono h.bel.size), own_mono3 ho (by omega), by simpa using own_below h.own hb⟩

set_option maxRecDepth 100000 in
set_option maxHeartbeats 8000000 in
theorem walk_main (a : Option Addr) (n c : Nat) (l : List (Int × Int × Int)) (w : World) (hl : l.length = n) (hA : ActsM w a l) (hn : n ≤ 500) :
    Calls Try.prog 4 #[.slice a n c] w fun e w' => e = .returned (.bool true) ∧ Below w.heap.size w w' := by
  obtain ⟨i0, hi, hz0, hz1, hz2⟩ := info_parts Try.info3
  have HL := hide hl
  have HA := hide hA
  have hn' : ¬ 500 < (n : Int) := by omega
  clear hl hA
  go_enter Try.func4, Try.ntmps4
  go_wp2_with (first
    | (go_at_call 10; go_must ((with_reducible refine (alive_any w).mono ?_); rintro e w1 ⟨rfl, hb1⟩; have C11 := hide (Dn.new hb1); clear hb1))
    | (go_at_call 11; go_must ((with_reducible refine C11.out.mono ?_); rintro e w2 ⟨cb, rfl, hD, hB⟩; have HD := hide hD; have HB := hide hB; clear hD hB))
    | (at_make; go_must (refine wpList_make_full _ rfl (.const (.int .i64 1000)) (.const (.int .i64 1000)) 38 rfl w2.heap.size 3 i0 (.int .i64 0) 1 Try.underlying38 hi hz0 hz1 .i64 .i64 _ _ 1000 rfl rfl rfl rfl (by rw [hz2]; omega) (by unfold maxLen; omega) (Nat.le_refl _) ?_; intro w3 ho3 hg3; have HO := hide (OM.start (len := n) HB.out HD.out ho3 hg3); clear ho3 hg3)))
  generalize w2.heap.size = tb at *
  clear hi hz0 hz1 hz2 C11 HD HB
  go_loopw [5, 7, 8] (fun x cn i wr => ∃ (k : Nat) (d : Dq) (X : List Int) (nx : Nat), k ≤ n + 100 ∧ x = .int .i64 (nx : Nat) ∧ cn = .int .i64 (X.length : Nat) ∧ i = .int .i64 (k : Nat) ∧ Hid (OM w wr cb tb n k d X nx)) (fun _ _ i _ => n + 100 - (intOf i).toNat)
  case atStart => exact ⟨0, Dq.zero, [], 1, by omega, rfl, rfl, rfl, HO⟩
  case round =>
    obtain ⟨k, d, X, nx, hk, rfl, rfl, rfl, HM⟩ := hrel
    by_cases hlt : k < n + 100
    · have hlt' : (k : Int) < (n : Int) + 100 := by omega
      have hnx1 := HM.out.oi.nx1
      have hnx2 := HM.out.oi.nxi
      have hnx : nx ≤ 601 := by omega
      have hXl : X.length ≤ 601 := by obtain ⟨H, _, hA⟩ := HM.out.oi.acc; have := hA.2; omega
      clear hnx1 hnx2
      by_cases hkn : k < n
      · have hkn' : (k : Int) < (n : Int) := by omega
        obtain ⟨b, off, wy, kd, it, rfl, ha0, ha1, ha2⟩ := acts_at HA.out (show k < l.length by have := HL.out; omega)
        have HC := hide (fun W (hb : Below w.heap.size w W) => And.intro (keep_cell ha0 hb) (And.intro (keep_cell ha1 hb) (keep_cell ha2 hb)))
        clear ha0 ha1 ha2
        go_upto_region 12 with fail
        generalize hV : wr.alloc (.cells #[.int .i64 ((k : Int) % 16), .int .i64 0, .int .i64 0] 29) = V1 at *
        have HX := hide (HM.out.box (xs := [.int .i64 ((k : Int) % 16), .int .i64 0, .int .i64 0]) hV.symm)
        generalize hab : wr.heap.size = ab at *
        clear hab hV
        obtain ⟨x0, x1, x2⟩ := HX.out.1.bx.c3
        obtain ⟨y0, y1, y2⟩ := HX.out.1.bx.f3
        obtain ⟨hc0, hc1, hc2⟩ := HC.out V1 HX.out.1.bel
        go_upto_region 14 with fail
        have HX2 := hide (((HX.out.1.put HX.out.2.1 HX.out.2.2 0 (.int .i64 wy)).put HX.out.2.1 HX.out.2.2 1 (.int .i64 kd)).put HX.out.2.1 HX.out.2.2 2 (.int .i64 it))
        generalize ((V1.setCell ⟨ab, 0, none⟩ (.int .i64 wy)).setCell ⟨ab, 1, none⟩ (.int .i64 kd)).setCell ⟨ab, 2, none⟩ (.int .i64 it) = V2 at *
        replace HX2 := hide (show Boxed w cb tb V2 ab [.int .i64 wy, .int .i64 kd, .int .i64 it] d X from HX2.out)
        clear x0 x1 x2 y0 y1 y2 hc0 hc1 hc2 HX HC
        obtain ⟨x0, x1, x2⟩ := HX2.out.bx.c3
        have HOI := hide HM.out.oi
        have HSK := hide (show OM w V2 cb tb n (k + 1) d X nx from HX2.out.om HOI.out.skip (Pr.early (by omega) HOI.out.skip.sm))
        clear HM
        by_cases hw1 : wy < 0
        · go_wp2
          go_roundw
          case rel => exact ⟨k + 1, d, X, nx, by omega, rfl, rfl, by go_num, HSK⟩
          case measure => simp [intOf]; omega
        by_cases hw2 : 15 < wy
        · go_wp2
          go_roundw
          case rel => exact ⟨k + 1, d, X, nx, by omega, rfl, rfl, by go_num, HSK⟩
          case measure => simp [intOf]; omega
        clear HSK
        by_cases hkd : kd = 0
        · subst hkd
          have C14 := hide (HX2.out.step (HOI.out.sm.mono (by omega)) wy)
          have HS := hide (HOI.out.step wy (by omega))
          generalize hr : stepD d wy = r at C14 HS
          obtain ⟨ra, rv, d2⟩ := r
          dsimp only at C14 HS
          have HSM := hide (show Sml (2 * k + 2) d2 by have := HOI.out.sm.step wy; rw [hr] at this; exact this)
          clear HOI HX2 hr
          by_cases ha : ra = 2
          · subst ha
            obtain ⟨v1, v2, v3, v4⟩ := HS.out.1 rfl
            obtain ⟨vn, rfl⟩ : ∃ vn : Nat, rv = vn := ⟨rv.toNat, by omega⟩
            have hv1 : ¬ (vn : Int) < 1 := by omega
            have hv2 : ¬ (nx : Int) ≤ (vn : Int) := by omega
            have hvm : vn < 1000 := by omega
            have HT := hide (fun W xs (hB : Boxed w cb tb W ab xs d2 X) => OM.took (len := n) (i := k + 1) (nx := nx) hB.bel (hB.dn.less (fun _ hk => .inl hk)) hB.own v3 hvm v4 (Pr.early (by omega) HSM.out))
            clear HS v1 v2 v3 v4
            go_wp2_with (go_at_call 14; go_must ((with_reducible refine C14.out.mono ?_); rintro e w6 ⟨rfl, hB⟩; obtain ⟨t0, t1, hO6⟩ := HT.out _ _ hB; have HO6 := hide hO6; clear hB hO6))
            go_roundw
            case rel => exact ⟨k + 1, d2, (vn : Int) :: X, nx, by omega, rfl, by rw [List.length_cons]; go_num, by go_num, HO6⟩
            case measure => simp [intOf]; omega
          · have ha' : (ra == 2) = false := by simpa using ha
            have HT := hide (fun W xs (hB : Boxed w cb tb W ab xs d2 X) => hB.om (len := n) (i := k + 1) (nx := nx) (HS.out.2 ha) (Pr.early (by omega) HSM.out))
            clear HS ha
            go_wp2_with (go_at_call 14; go_must ((with_reducible refine C14.out.mono ?_); rintro e w6 ⟨rfl, hB⟩; have HO6 := hide (HT.out _ _ hB); clear hB))
            go_roundw
            case rel => exact ⟨k + 1, d2, X, nx, by omega, rfl, rfl, by go_num, HO6⟩
            case measure => simp [intOf]; omega
        · have hkd' : (kd == 0) = false := by simpa using hkd
          have hkd'' : (kd != 0) = true := by simpa using hkd
          have C13 := hide (HX2.out.begin wy kd nx)
          have HS := hide (HOI.out.begin wy kd)
          have HSM := hide (HOI.out.sm.begin wy kd nx)
          generalize beginD d wy kd nx = r at *
          obtain ⟨re, d2⟩ := r
          dsimp only at C13 HS HSM
          clear HOI HX2 hkd
          by_cases hs : re = 0 ∧ kd = 1
          · obtain ⟨rfl, rfl⟩ := hs
            have HT := hide (fun W xs (hB : Boxed w cb tb W ab xs d2 X) => hB.om (len := n) (i := k + 1) (nx := nx + 1) (HS.out.1 ⟨rfl, rfl⟩) (Pr.early (by omega) HSM.out))
            clear HS
            go_wp2_with (first
              | (go_at_call 13; go_must ((with_reducible refine C13.out.mono ?_); rintro e w6 ⟨rfl, hB⟩; obtain ⟨x0, x1, x2⟩ := hB.bx.c3; have HO6 := hide (HT.out _ _ hB); clear hB))
              | (go_at_call 15; go_must ((with_reducible refine (num_any _ _).mono ?_); rintro e w7 ⟨rfl, rfl⟩)))
            go_roundw
            case rel => exact ⟨k + 1, d2, X, nx + 1, by omega, by go_num, rfl, by go_num, HO6⟩
            case measure => simp [intOf]; omega
          · have HT := hide (fun W xs (hB : Boxed w cb tb W ab xs d2 X) => hB.om (len := n) (i := k + 1) (nx := nx) (HS.out.2 hs) (Pr.early (by omega) HSM.out))
            clear HS
            by_cases he : re = 0
            · subst he
              have hk1 : (kd == 1) = false := by simp; intro e; exact hs ⟨rfl, e⟩
              clear hs
              go_wp2_with (first
                | (go_at_call 13; go_must ((with_reducible refine C13.out.mono ?_); rintro e w6 ⟨rfl, hB⟩; obtain ⟨x0, x1, x2⟩ := hB.bx.c3; have HO6 := hide (HT.out _ _ hB); clear hB))
                | (go_at_call 15; go_must ((with_reducible refine (num_any _ _).mono ?_); rintro e w7 ⟨rfl, rfl⟩)))
              go_roundw
              case rel => exact ⟨k + 1, d2, X, nx, by omega, rfl, rfl, by go_num, HO6⟩
              case measure => simp [intOf]; omega
            · have he' : (re == 0) = false := by simpa using he
              clear he hs
              go_wp2_with (first
                | (go_at_call 13; go_must ((with_reducible refine C13.out.mono ?_); rintro e w6 ⟨rfl, hB⟩; obtain ⟨x0, x1, x2⟩ := hB.bx.c3; have HO6 := hide (HT.out _ _ hB); clear hB))
                | (go_at_call 15; go_must ((with_reducible refine (num_any _ _).mono ?_); rintro e w7 ⟨rfl, rfl⟩)))
              go_roundw
              case rel => exact ⟨k + 1, d2, X, nx, by omega, rfl, rfl, by go_num, HO6⟩
              case measure => simp [intOf]; omega
      · have hkn' : ¬ (k : Int) < (n : Int) := by omega
        obtain ⟨q, hq⟩ : ∃ q, q = k % 16 := ⟨_, rfl⟩
        have hqm : (k : Int) % 16 = (q : Int) := by omega
        have hq1 : ¬ (q : Int) < 0 := by omega
        have hq2 : ¬ 15 < (q : Int) := by omega
        have HQ := hide hq
        clear hq
        go_upto_region 14 with fail
        generalize hV : wr.alloc (.cells #[.int .i64 (q : Int), .int .i64 0, .int .i64 0] 29) = V1 at *
        have HX := hide (HM.out.box (xs := [.int .i64 (q : Int), .int .i64 0, .int .i64 0]) hV.symm)
        generalize hab : wr.heap.size = ab at *
        clear hab hV
        obtain ⟨x0, x1, x2⟩ := HX.out.1.bx.c3
        have C14 := hide (HX.out.1.step (HM.out.oi.sm.mono (by omega)) (q : Int))
        have HS := hide (HM.out.oi.step (q : Int) (by omega))
        have HPR := hide (HM.out.pr.step (by omega) (by omega) HQ.out)
        generalize stepD d (q : Int) = r at *
        obtain ⟨ra, rv, d2⟩ := r
        dsimp only at C14 HS HPR
        clear HM HX
        by_cases ha : ra = 2
        · subst ha
          obtain ⟨v1, v2, v3, v4⟩ := HS.out.1 rfl
          obtain ⟨vn, rfl⟩ : ∃ vn : Nat, rv = vn := ⟨rv.toNat, by omega⟩
          have hv1 : ¬ (vn : Int) < 1 := by omega
          have hv2 : ¬ (nx : Int) ≤ (vn : Int) := by omega
          have hvm : vn < 1000 := by omega
          have HT := hide (fun W xs (hB : Boxed w cb tb W ab xs d2 X) => OM.took (len := n) (i := k + 1) (nx := nx) hB.bel (hB.dn.less (fun _ hk => .inl hk)) hB.own v3 hvm v4 (HPR.out))
          clear HS v1 v2 v3 v4
          go_wp2_with (go_at_call 14; go_must ((with_reducible refine C14.out.mono ?_); rintro e w6 ⟨rfl, hB⟩; obtain ⟨t0, t1, hO6⟩ := HT.out _ _ hB; have HO6 := hide hO6; clear hB hO6))
          go_roundw
          case rel => exact ⟨k + 1, d2, (vn : Int) :: X, nx, by omega, rfl, by rw [List.length_cons]; go_num, by go_num, HO6⟩
          case measure => simp [intOf]; omega
        · have ha' : (ra == 2) = false := by simpa using ha
          have HT := hide (fun W xs (hB : Boxed w cb tb W ab xs d2 X) => hB.om (len := n) (i := k + 1) (nx := nx) (HS.out.2 ha) (HPR.out))
          clear HS ha
          go_wp2_with (go_at_call 14; go_must ((with_reducible refine C14.out.mono ?_); rintro e w6 ⟨rfl, hB⟩; have HO6 := hide (HT.out _ _ hB); clear hB))
          go_roundw
          case rel => exact ⟨k + 1, d2, X, nx, by omega, rfl, rfl, by go_num, HO6⟩
          case measure => simp [intOf]; omega
    · obtain rfl : k = n + 100 := by omega
      have hlt' : ¬ (((n + 100 : Nat) : Nat) : Int) < (n : Int) + 100 := by omega
      have HAC := hide HM.out.left
      have C21 := hide (HM.out.dn.items (HM.out.oi.sm.mono (by omega)))
      have HST := hide (fun (w' : World) (a : Option Addr) (m c : Nat) ho hb => LM.start (w' := w') (a := a) (m := m) (c := c) HM.out ho hb)
      have hnx2 := HM.out.oi.nxi
      have hnx1 := HM.out.oi.nx1
      have HNX := hide (And.intro hnx1 hnx2)
      generalize hH : itemsD d = H at *
      have hac := HAC.out.2
      obtain ⟨m, hm⟩ : ∃ m, m = H.length := ⟨_, rfl⟩
      have HMM := hide hm
      obtain ⟨xl, hxl⟩ : ∃ xl, xl = X.length := ⟨_, rfl⟩
      have hsum : (m : Int) + (xl : Int) = (nx : Int) - 1 := by omega
      have hs2 : ((m : Int) + (xl : Int) != wrap64 ((nx : Int) - 1)) = false := by unfold wrap64; simp; omega
      have hw1 : IntKind.i64.wrap ((m : Int) + (xl : Int)) = (m : Int) + (xl : Int) := by rw [IntKind.wrap_i64]; omega
      rw [← hm] at C21
      rw [← hxl]
      clear hH hac hm hxl hlt hk hnx1 hnx2 hsum
      go_wp2_with (go_at_call 21; go_must ((with_reducible refine C21.out.mono ?_); rintro e w4 ⟨a4, m4, c4, rfl, hm4, ho4, hb4⟩; subst hm4; have HLM := hide (HST.out _ _ _ _ ho4 hb4); clear ho4 hb4))
      have hm9 : m4 ≤ 1000 := by have h1 := HNX.out; have h2 := HAC.out.2; have h3 := HMM.out; omega
      clear hs2 hw1 C21 HST HM
      go_loopw [15] (fun i wr => ∃ j : Nat, j ≤ m4 ∧ i = .int .i64 (j : Nat) ∧ Hid (LM w wr tb (.slice a4 m4 c4) m4 H X j)) (fun i _ => m4 - (intOf i).toNat)
      case atStart => exact ⟨0, Nat.zero_le _, rfl, HLM⟩
      case round =>
        obtain ⟨j, hj, rfl, HLj⟩ := hrel
        by_cases hjm : j < m4
        · obtain ⟨g, v, rfl, hv1, hv2, hmc, hc1, hc2, hf2, hN⟩ := HLj.out.next HAC.out hjm (by have := HNX.out; omega)
          have HN := hide hN
          have hv1' : ¬ (v : Int) < 1 := by omega
          have hv2' : ¬ (nx : Int) ≤ (v : Int) := by omega
          have hvm : v < 1000 := by have := HNX.out; omega
          clear hN hv1 hv2 HLj
          go_wp2
          go_roundw
          case rel => exact ⟨j + 1, by omega, by go_num, HN⟩
          case measure => simp [intOf]; omega
        · obtain rfl : j = m4 := by omega
          go_wp2
          go_ret
          exact ⟨rfl, HLj.out.bel⟩

theorem walk (a : Option Addr) (n c : Nat) (l : List (Int × Int × Int)) (w : World) (hl : l.length = n) (hm : n ≤ maxLen) (hA : ActsM w a l) :
    Calls Try.prog 4 #[.slice a n c] w fun e w' => e = .returned (.bool true) ∧ Below w.heap.size w w' := by
  by_cases h : n ≤ 500
  · exact walk_main a n c l w hl hA h
  · have h' : 500 < (n : Int) := by omega
    have hm' : n ≤ 9223372036854775807 := by unfold maxLen at hm; omega
    go_enter Try.func4, Try.ntmps4
    go_wp2_with (go_at_call 10; go_must ((with_reducible refine (alive_any w).mono ?_); rintro e w1 ⟨rfl, hb1⟩))
    go_ret
    exact ⟨rfl, hb1⟩
end dequeOnce
end Go.Proofs.Ytaooglcjcnkgnaa
