/- The document's link: Out, its walk. -/
import Derived.Test.YtofigofaiadffaaRom
namespace Go.Proofs.Ytofigofaiadffaa
open Go.RowKit Go.ChangeShapes Go.WideShapes Go.ChangeAt Go.Deep

def routP (now : Int) (r : Rl) : List (Nat × List Nat) := if (rdueF now r.op).isEmpty && r.ow then [(0, [])] else rdueF now r.op
def routL (now : Int) (r : Rl) : Rl := { r with op := r.op.map (rgo now), ow := if (routP now r).isEmpty then r.ow else false }
/-- What Out leaves. -/
def ROQ (E : Nat → Prop) (w : World) (g : Nat) (k : Kc) (r : Rl) (now : Int) (e : Ending) (w' : World) : Prop :=
  ∃ a n c l, e = .returned (.slice a n c) ∧ RowF w.heap.size w' a n c l ∧ l.map Fm.p = (routP now r).map (rfr k r) ∧ RLk E w' g k (routL now r) ∧ Kp E w w'

theorem rgoI_all (now : Int) (r : Rl) : rgoI now r r.op.length = { r with op := r.op.map (rgo now) } := by
  unfold rgoI
  simp
theorem ROS.fin {E : Nat → Prop} {w wr : World} {g : Nat} {k : Kc} {r : Rl} {now : Int} {a : Option Addr} {n c : Nat} (h : ROS E w wr g k r now r.op.length a n c) :
    ∃ l, RowF w.heap.size wr a n c l ∧ l.map Fm.p = (rdueF now r.op).map (rfr k r) ∧ RLk E wr g k { r with op := r.op.map (rgo now) } ∧ Kp E w wr ∧ (∀ j, E j → j < w.heap.size) ∧ n = (rdueF now r.op).length := by
  obtain ⟨l, h1, h2, h3, h4, h5⟩ := h
  rw [rgoI_all] at h3
  rw [List.take_length] at h2
  refine ⟨l, h1, h2, h3, h4, h5, ?_⟩
  have := congrArg List.length h2
  simp at this
  rw [← this, h1.1]
theorem RLk.owed {E : Nat → Prop} {w : World} {g : Nat} {k : Kc} {r : Rl} (h : RLk E w g k r) (x : Bool) : RLk E (w.setCell ⟨g, 9, none⟩ (.bool x)) g k { r with ow := x } := by
  obtain ⟨oa, on, oc, ka, kn, kc, lo, lk, h1, h2, h3, h4, h5, h6, h7⟩ := h
  have hb := h1.put 9 (.bool x)
  refine ⟨oa, on, oc, ka, kn, kc, lo, lk, by simpa [lkCs] using hb, h2.keep (fun j hj _ => Below.heap_setCell _ _ _ _ hj.2), h3.keep (fun j hj _ => Below.heap_setCell _ _ _ _ hj.2), h4, h5, h6, fun j hj => by rw [size_set]; exact h7 j hj⟩
theorem rout_set {E : Nat → Prop} {w W : World} {g : Nat} {k : Kc} {r : Rl} {now : Int} {a : Option Addr} {n c : Nat} {l : List Fm} (h1 : RowF w.heap.size W a n c l) (h2 : l.map Fm.p = (routP now r).map (rfr k r)) (h3 : RLk E W g k { r with op := r.op.map (rgo now) }) (h4 : Kp E w W) (h5 : ∀ j, E j → j < w.heap.size) (hn : 0 < n) :
    ROQ E w g k r now (.returned (.slice a n c)) (W.setCell ⟨g, 9, none⟩ (.bool false)) := by
  have hEg : E g := by obtain ⟨oa, on, oc, ka, kn, kc, lo, lk, -, -, -, -, -, h6, -⟩ := h3; exact h6
  have hlen : (routP now r).length = n := by have := congrArg List.length h2; simp at this; rw [← this, h1.1]
  have hL : routL now r = { r with op := r.op.map (rgo now), ow := false } := by
    unfold routL
    rw [if_neg (by rw [List.isEmpty_iff]; intro e; rw [e] at hlen; simp at hlen; omega)]
  refine ⟨a, n, c, l, rfl, h1.keep (by rw [size_set]; exact Nat.le_refl _) (fun j hj _ => Below.heap_setCell _ _ _ _ (by show j ≠ g; have := h5 g hEg; omega)), h2, ?_, h4.put (.inl hEg) _⟩
  rw [hL]
  exact h3.owed false
theorem rout_one {E : Nat → Prop} {w wr X w4 : World} {g : Nat} {k : Kc} {r : Rl} {now : Int} {a a4 : Option Addr} {n1 c c1 c4 : Nat} {a1 : Option Addr} {l : List Fm} (hl : l.map Fm.p = (rdueF now r.op).map (rfr k r)) (h3 : RLk E wr g k { r with op := r.op.map (rgo now) }) (h4 : Kp E w wr) (h5 : ∀ j, E j → j < w.heap.size) (h0 : rdueF now r.op = []) (how : r.ow = true)
    (hb : Below wr.heap.size wr X) (hr4 : RowF w.heap.size w4 a4 1 c4 (l ++ [⟨k.self, k.peer, k.life, 0, (r.all : Nat), ⟨a1, n1, c1, []⟩⟩])) (hg : X.grownBy w4 (Value.slice a 0 c).ownBlock) (hrow : ∀ ad, a = some ad → w.heap.size ≤ ad.block) : ROQ E w g k r now (.returned (.slice a4 1 c4)) (w4.setCell ⟨g, 9, none⟩ (.bool false)) := by
  have hrw : ∀ q, (Value.slice a 0 c).ownBlock = some q → w.heap.size ≤ q := fun q hq => by
    cases a with
    | none => cases hq
    | some ad => simp only [Value.ownBlock, Option.some.injEq] at hq; rw [← hq]; exact hrow ad rfl
  have hP : routP now r = [(0, [])] := by unfold routP; rw [h0, how]; rfl
  rw [h0] at hl
  refine rout_set hr4 ?_ (h3.keep (Nat.le_trans hb.size hg.size) (fun j hj => ?_)) ((h4.below hb).grown hg hrw) h5 (by omega)
  · rw [hP, List.map_append, hl]
    rfl
  · have hj' := h5 j hj
    have h6 := h4.size
    have h7 := hb.size
    rw [hg.block j (by omega) (fun e => by have := hrw j e.symm; omega), hb.block j (by omega)]
theorem rout_cells {E : Nat → Prop} {wr X w4 : World} {g : Nat} {k : Kc} {r : Rl} {B : Nat} {a : Option Addr} {c : Nat} (h3 : RLk E wr g k r) (h5 : ∀ j, E j → j < B) (hb : Below wr.heap.size wr X) (hg : X.grownBy w4 (Value.slice a 0 c).ownBlock) (hrow : ∀ ad, a = some ad → B ≤ ad.block) (hB : B ≤ wr.heap.size) : w4.cell? ⟨g, 9, none⟩ = some (.bool r.ow) ∧ w4.frozen? ⟨g, 9, none⟩ = false := by
  have hEg : E g := by obtain ⟨oa, on, oc, ka, kn, kc, lo, lk, -, -, -, -, -, h6, -⟩ := h3; exact h6
  have h6 : RLk E w4 g k r := h3.keep (Nat.le_trans hb.size hg.size) (fun j hj => by
    have hj' := h5 j hj
    have h7 := hb.size
    rw [hg.block j (by omega) (fun e => by
      cases a with
      | none => cases e
      | some ad => simp only [Value.ownBlock, Option.some.injEq] at e; have := hrow ad rfl; omega), hb.block j (by omega)])
  obtain ⟨-, -, -, -, c9, f9, -⟩ := h6.cells
  exact ⟨c9, f9⟩

/-- What the round's stores leave. -/
theorem rout_mid {E : Nat → Prop} {w wr : World} {g b q : Nat} {k : Kc} {r : Rl} {now : Int} {a : Option Addr} {n c : Nat} {t : Txt} {pn : Int} {u0 : Value}
    (hd : ∀ x, ∃ l, ROM E w (putT (wr.drewN x) b (q * 4) now (pn + 1)) g k r now q a n c l) (d0 : wr.cell? ⟨b, q * 4, none⟩ = some u0) (d3 : wr.cell? ⟨b, q * 4 + 3, none⟩ = some (.slice t.a t.len t.cap))
    (ht : TxO (fun j => E j ∧ j ≠ g) wr t) (htb : ∀ ad, t.a = some ad → ad.block ≠ b) (hbw : b < w.heap.size) (nq : Nat) (V : World) (e : ((wr.drewN nq).setCell ⟨b, q * 4 + 2, none⟩ (.int .i64 (pn + 1))).setCell ⟨b, q * 4 + 1, none⟩ (.int .i64 now) = V) :
    ∃ l, ROM E w V g k r now q a n c l ∧ V.cell? ⟨b, q * 4, none⟩ = some u0 ∧ V.cell? ⟨b, q * 4 + 3, none⟩ = some (.slice t.a t.len t.cap) ∧
      (∀ sq, Calls Try.prog 32 #[.pointer (some ⟨g, 0, none⟩), .int .i64 sq, .slice t.a t.len t.cap] V.drew (FrQ V.drew k.self k.peer k.life sq (r.all : Nat) t.bs)) ∧
      ∀ X w4, Below V.heap.size V X → X.grownBy w4 (Value.slice a n c).ownBlock → (∀ ad, a = some ad → w.heap.size ≤ ad.block) → w4.cell? ⟨b, q * 4, none⟩ = some u0 ∧ w4.cell? ⟨b, q * 4 + 3, none⟩ = some (.slice t.a t.len t.cap) := by
  obtain ⟨l, hm⟩ := hd nq
  have e' : putT (wr.drewN nq) b (q * 4) now (pn + 1) = V := e
  rw [e'] at hm
  have e0 : V.cell? ⟨b, q * 4, none⟩ = some u0 := by
    rw [← e, World.cell?_setCell_other (h := by simp), World.cell?_setCell_other (h := by simp)]
    simpa using d0
  have e3 : V.cell? ⟨b, q * 4 + 3, none⟩ = some (.slice t.a t.len t.cap) := by
    rw [← e, World.cell?_setCell_other (h := by simp), World.cell?_setCell_other (h := by simp)]
    simpa using d3
  have htV : TxO (fun j => E j ∧ j ≠ g) V t := ht.keep fun ad e5 => by
    rw [← e', putT_keep (htb ad e5)]
    rfl
  obtain ⟨c0, c1, c2, c6, -, -, -⟩ := hm.2.2.1.cells
  have c6' : V.cell? ⟨g, 6, none⟩ = some (.int .i64 (r.all : Nat)) := c6
  obtain ⟨hr, hn, -⟩ := htV.reads
  refine ⟨l, hm, e0, e3, fun sq => rframe_any g k.self k.peer k.life sq (r.all : Nat) t.a t.len t.cap t.bs V.drew (by simpa using c0) (by simpa using c1) (by simpa using c2) (by simpa using c6') htV.1.1 htV.1.2.1 htV.1.2.2 hr.drew hn, fun X w4 hb hg hrow => ?_⟩
  have hbV := cell_some_lt e0
  have hk : w4.heap[b]? = V.heap[b]? := by
    rw [hg.block b (Nat.lt_of_lt_of_le hbV hb.size) (fun e => by
      cases a with
      | none => cases e
      | some ad => simp only [Value.ownBlock, Option.some.injEq] at e; have := hrow ad rfl; omega), hb.block b hbV]
  exact ⟨by rw [World.cell?_of_block (w := V) (a := ⟨b, q * 4, none⟩) hk]; exact e0, by rw [World.cell?_of_block (w := V) (a := ⟨b, q * 4 + 3, none⟩) hk]; exact e3⟩

set_option linter.unusedSimpArgs false in
set_option maxRecDepth 100000 in
set_option maxHeartbeats 8000000 in
theorem rout_any (E : Nat → Prop) (g : Nat) (k : Kc) (r : Rl) (now : Int) (w : World) (h : RLk E w g k r) (hl8 : r.op.length ≤ 1000000) (hT : ∀ i (hi : i < r.op.length), r.op[i].n ≤ 1000000 ∧ -(2 ^ 61) ≤ r.op[i].tt ∧ r.op[i].tt ≤ 2 ^ 61) :
    Calls Try.prog 17 #[.pointer (some ⟨g, 0, none⟩), .int .i64 now] w (ROQ E w g k r now) := by
  have HS0 := hide (ROS.begin now h)
  have HT := hide hT
  have HL8 := hide hl8
  clear h hT hl8
  unfold ROQ
  go_enter Try.func17, Try.ntmps17
  go_wp2_with fail
  go_loopw [5, 6] (fun s i wr => ∃ (q : Nat) (a : Option Addr) (n c : Nat), q ≤ r.op.length ∧ n ≤ q ∧ s = .slice a n c ∧ i = .int .i64 (q : Nat) ∧ Hid (ROS E w wr g k r now q a n c)) (fun _ i _ => r.op.length - (intOf i).toNat)
  case atStart => exact ⟨0, none, 0, 0, Nat.zero_le _, Nat.le_refl _, rfl, rfl, HS0⟩
  case round =>
    obtain ⟨q, a, n, c, hq, hnq, rfl, rfl, HS⟩ := hrel
    by_cases hlt : q < r.op.length
    · obtain ⟨b, oc, t, hbg, c7, hfz, htx, hTx, hTb, hbw, ⟨d0, d1, d2, d3⟩, ⟨c0, c1, c2, c6⟩, HDUE, HNOT⟩ := HS.out.open hlt
      have hki : (q : Int) < (r.op.length : Int) := by omega
      have hl6 : r.op.length ≤ 1000000 := HL8.out
      obtain ⟨hn6, ht1, ht2⟩ := HT.out q hlt
      have HMR := hide (show ∀ (V X w4 : World) (l : List Fm) (a' : Option Addr) (c' : Nat) (y : Fm), rdue now r.op[q] = true → ROM E w V g k r now q a n c l → RowF w.heap.size w4 a' (n + 1) c' (l ++ [y]) → y.p = rfr k r (r.op[q].sq, r.op[q].x) → Below V.heap.size V X → X.grownBy w4 (Value.slice a n c).ownBlock → (∀ ad, a = some ad → w.heap.size ≤ ad.block) → ROS E w w4 g k r now (q + 1) a' (n + 1) c' from fun V X w4 l a' c' y hd hm hr4 hy hb hg hrow => ros_more hm hlt hd hr4 hy hb hg hrow)
      have HX := hide htx
      have HTX := hide hTx
      have HTB := hide hTb
      clear htx hTx hTb
      generalize hp : r.op[q] = p at *
      cases hdue : rdue now p with
      | false =>
        have HN := hide (HNOT hdue)
        have hd2 : 1 ≤ p.n ∧ now < p.tt + wtT p.n := by
          unfold rdue at hdue
          simp only [decide_eq_false_iff_not, not_or] at hdue
          omega
        have C31 := hide (fun x => wait_any p.n (wr.drewN x) hd2.1 hn6)
        have hz' : decide (0 < (p.n : Int)) = true := by simp; omega
        have hw1 : IntKind.i64.wrap (p.tt + wtT p.n) = p.tt + wtT p.n := by have := wtT_le p.n; rw [IntKind.wrap_i64]; omega
        have hl1 : decide (now < p.tt + wtT p.n) = true := by simp; omega
        clear HDUE HNOT hdue hd2 hn6 ht1 ht2 HX HTX HTB hfz hp d0 d3
        generalize wtT p.n = wt at *
        generalize (p.n : Int) = ni at *
        generalize p.tt = tt at *
        go_upto_region 6 with fail
        go_big_quiet (first | (go_at_call 31; with_reducible exact Calls.quiet_of_same (C31.out _)))
        go_wp2_with fail
        go_roundw
        case rel => exact ⟨q + 1, a, n, c, by omega, by omega, rfl, by go_num, hide (HN.out _)⟩
        case measure => simp [intOf]; omega
      | true =>
        have HMID := hide (fun nq V (e : ((wr.drewN nq).setCell ⟨b, q * 4 + 2, none⟩ (.int .i64 ((p.n : Int) + 1))).setCell ⟨b, q * 4 + 1, none⟩ (.int .i64 now) = V) => rout_mid (HDUE hdue) d0 d3 HTX.out HTB.out hbw nq V e)
        have HMORE := hide (fun V X w4 l a' c' y => HMR.out V X w4 l a' c' y hdue)
        have hwn : IntKind.i64.wrap ((p.n : Int) + 1) = (p.n : Int) + 1 := by rw [IntKind.wrap_i64]; omega
        have HN9 := hide (show n ≤ 1000000 from by have := HL8.out; omega)
        have HY := hide (fun a1 n1 c1 => show Fm.p ⟨k.self, k.peer, k.life, (p.sq : Nat), (r.all : Nat), ⟨a1, n1, c1, t.bs⟩⟩ = rfr k r (p.sq, p.x) from by rw [← HX.out]; rfl)
        have f1 := hfz (q * 4 + 1)
        have f2 := hfz (q * 4 + 2)
        by_cases hz : p.n = 0
        · have hz' : decide (0 < (p.n : Int)) = false := by simp; omega
          clear HDUE HNOT hdue hn6 ht1 ht2 HX HTX HTB hfz hp HMR HS hz d0 d3 HL8 HT HS0
          generalize (p.n : Int) = ni at *
          generalize p.tt = tt at *
          go_upto_region 6 with fail
          go_big_quiet (fail)
          go_upto_region 9 with fail
          have HV := hide (HMID.out nq)
          clear HMID d1 d2 c0 c1 c2 c6 c7 f1 f2
          generalize e1 : ((wr.drewN nq).setCell ⟨b, q * 4 + 2, none⟩ (.int .i64 (ni + 1))).setCell ⟨b, q * 4 + 1, none⟩ (.int .i64 now) = V at *
          obtain ⟨l, hm, e0, e3, hC, hK⟩ := HV.out V rfl
          have HM := hide hm
          have C32 := hide hC
          have HKG := hide hK
          clear HV e1 hm hC hK
          generalize k.self = se at *
          generalize k.peer = pe at *
          generalize k.life = li at *
          generalize hal : ((r.all : Nat) : Int) = al at *
          generalize hsq : (p.sq : Int) = sq at *
          have HSA := hide (And.intro hal hsq)
          clear hal hsq
          refine wp_region_noPanic ?_
          refine wp_region_held_drew (S := fun W => W.cell? ⟨b, q * 4, none⟩ = some (.int .i64 sq) ∧ W.cell? ⟨b, q * 4 + 3, none⟩ = some (.slice t.a t.len t.cap)) (by kernel_rfl) (⟨e0, e3⟩) (fun hHeld => ?_)
          refine takeD (i := 0) (d := some 53) (v := ?_) rfl rfl (by kernel_rfl) (by kernel_rfl) (by kernel_rfl) (fun _ _ _ h => h) (Or.inl ⟨by rfl, ?_⟩) (by assumption) ?_
          rotate_left
          · intro w hSw
            go_simp
            try (with_reducible rfl)
          try simp only [Act.put, List.setIfInBounds_toArray, List.set_cons_zero, List.set_cons_succ]
          refine takeD (i := 1) (d := some 54) (v := ?_) rfl rfl (by kernel_rfl) (by kernel_rfl) (by kernel_rfl) (fun _ _ _ h => h) (Or.inl ⟨by rfl, ?_⟩) (by assumption) ?_
          rotate_left
          · intro w hSw
            go_simp
            try (with_reducible rfl)
          try simp only [Act.put, List.setIfInBounds_toArray, List.set_cons_zero, List.set_cons_succ]
          refine takeD (i := 2) (d := some 55) (v := ?_) rfl rfl (by kernel_rfl) (by kernel_rfl) (by kernel_rfl) (fun _ _ _ h => h) (Or.inl ⟨by rfl, ?_⟩) (by assumption) ?_
          rotate_left
          · intro w hSw
            go_simp
            try (with_reducible rfl)
          try simp only [Act.put, List.setIfInBounds_toArray, List.set_cons_zero, List.set_cons_succ]
          refine takeD (i := 3) (d := some 56) (v := ?_) rfl rfl (by kernel_rfl) (by kernel_rfl) (by kernel_rfl) (fun _ _ _ h => h) (Or.inl ⟨by rfl, ?_⟩) (by assumption) ?_
          rotate_left
          · intro w hSw
            go_simp
            try (with_reducible rfl)
          try simp only [Act.put, List.setIfInBounds_toArray, List.set_cons_zero, List.set_cons_succ]
          refine takeD (i := 4) (d := some 57) (v := ?_) rfl rfl (by kernel_rfl) (by kernel_rfl) (by kernel_rfl) (fun _ _ _ h => h) (Or.inl ⟨by rfl, ?_⟩) (by assumption) ?_
          rotate_left
          · intro w hSw
            go_simp
            try (with_reducible rfl)
          try simp only [Act.put, List.setIfInBounds_toArray, List.set_cons_zero, List.set_cons_succ]
          refine takeD (i := 5) (d := some 58) (v := ?_) rfl rfl (by kernel_rfl) (by kernel_rfl) (by kernel_rfl) (fun _ _ _ h => h) (Or.inl ⟨by rfl, ?_⟩) (by assumption) ?_
          rotate_left
          · intro w hSw
            go_simp
            try (with_reducible rfl)
          try simp only [Act.put, List.setIfInBounds_toArray, List.set_cons_zero, List.set_cons_succ]
          refine takeD (i := 6) (d := some 59) (v := ?_) rfl rfl (by kernel_rfl) (by kernel_rfl) (by kernel_rfl) (fun _ _ _ h => h) (Or.inl ⟨by rfl, ?_⟩) (by assumption) ?_
          rotate_left
          · intro w hSw
            go_simp
            try (with_reducible rfl)
          try simp only [Act.put, List.setIfInBounds_toArray, List.set_cons_zero, List.set_cons_succ]
          refine takeD (i := 7) (d := some 60) (v := ?_) rfl rfl (by kernel_rfl) (by kernel_rfl) (by kernel_rfl) (fun _ _ _ h => h) (Or.inl ⟨by rfl, ?_⟩) (by assumption) ?_
          rotate_left
          · intro w hSw
            go_simp
            try (with_reducible rfl)
          try simp only [Act.put, List.setIfInBounds_toArray, List.set_cons_zero, List.set_cons_succ]
          refine takeD (i := 8) (d := some 61) (v := ?_) rfl rfl (by kernel_rfl) (by kernel_rfl) (by kernel_rfl) (fun _ _ _ h => h) (Or.inl ⟨by rfl, ?_⟩) (by assumption) ?_
          rotate_left
          · intro w hSw
            go_simp
            try (with_reducible rfl)
          try simp only [Act.put, List.setIfInBounds_toArray, List.set_cons_zero, List.set_cons_succ]
          refine takeD (i := 9) (d := some 62) (v := ?_) rfl rfl (by kernel_rfl) (by kernel_rfl) (by kernel_rfl) (fun _ _ _ h => h) (Or.inl ⟨by rfl, ?_⟩) (by assumption) ?_
          rotate_left
          · intro w hSw
            go_simp
            try (with_reducible rfl)
          try simp only [Act.put, List.setIfInBounds_toArray, List.set_cons_zero, List.set_cons_succ]
          refine wpAnyH_ready (rs := [10]) (by kernel_rfl) (by simp) ?_
          refine AllReadyH.cons rfl (fun K hK => ?_) AllReadyH.nil
          go_simp
          go_wp2_with (go_at_call 32; go_must ((with_reducible refine (C32.out sq).mono ?_); rintro e w2 ⟨a1, n1, c1, rfl, hT1, hB1⟩))
          have HT1 := hide hT1
          have HB1 := hide (below_undrew1 hB1)
          have g0 := keep_cell e0 HB1.out
          have g3 := keep_cell e3 HB1.out
          clear hT1 hB1
          refine hK.out _ _ (⟨g0, g3⟩) (fun hHeld => ?_)
          clear hK K
          try simp only [Act.put, List.setIfInBounds_toArray, List.set_cons_zero, List.set_cons_succ]
          refine wpAnyH_ready (rs := [11]) (by kernel_rfl) (by simp) ?_
          refine AllReadyH.cons rfl (fun K hK => ?_) AllReadyH.nil
          go_simp
          go_wp2_with fail
          have HX2 := hide (below_new w2 (.cells #[.int .i64 se, .int .i64 pe, .int .i64 li, .int .i64 sq, .int .i64 al, .slice a1 n1 c1] 34))
          have HRX := hide (HM.out.1.below (HB1.out.trans (HX2.out.mono HB1.out.size)))
          have HRD := hide (reads_new w2 (Fm.cs ⟨se, pe, li, sq, al, ⟨a1, n1, c1, t.bs⟩⟩) 34)
          have HTY := hide (HT1.out.below HX2.out)
          have k0 := keep_cell g0 HX2.out
          have k3 := keep_cell g3 HX2.out
          refine hK.out _ _ (⟨k0, k3⟩) (fun hHeld => ?_)
          clear hK K
          try simp only [Act.put, List.setIfInBounds_toArray, List.set_cons_zero, List.set_cons_succ]
          refine wpAnyH_ready (rs := [12]) (by kernel_rfl) (by simp) ?_
          refine AllReadyH.cons rfl (fun K hK => ?_) AllReadyH.nil
          refine app_rf (.tmp 53) (.tmp 64) rfl w.heap.size a n c l rfl HRX.out HN9.out (Nat.le_trans HM.out.2.2.2.1.size (Nat.le_trans HB1.out.size HX2.out.size)) w2.heap.size ⟨se, pe, li, sq, al, ⟨a1, n1, c1, t.bs⟩⟩ rfl HRD.out (HTY.out.mono fun j hj => ⟨Nat.le_trans HM.out.2.2.2.1.size hj.1, Nat.lt_of_lt_of_le hj.2 HX2.out.size⟩) ?_
          intro a4 c4 w4 hr4 hg4 hrow4
          have HR4 := hide hr4
          have HG4 := hide (And.intro hg4 hrow4)
          have HK4 := hide (HKG.out _ w4 (HB1.out.trans (HX2.out.mono HB1.out.size)) hg4 hrow4)
          have m0 := HK4.out.1
          have m3 := HK4.out.2
          clear hr4 hg4 hrow4
          refine hK.out _ _ (⟨m0, m3⟩) (fun hHeld => ?_)
          clear hK K
          try simp only [Act.put, List.setIfInBounds_toArray, List.set_cons_zero, List.set_cons_succ]
          refine takeD (i := 13) (d := some 5) (v := ?_) rfl rfl (by kernel_rfl) (by kernel_rfl) (by kernel_rfl) (fun _ _ _ h => h) (Or.inl ⟨by rfl, ?_⟩) (by assumption) ?_
          rotate_left
          · intro w hSw
            go_simp
            try (with_reducible rfl)
          try simp only [Act.put, List.setIfInBounds_toArray, List.set_cons_zero, List.set_cons_succ]
          refine wpAnyH_done (by kernel_rfl) ?_ _
          refine NoPanic.normal ?_
          go_wp2_with fail
          go_roundw
          case rel => exact ⟨q + 1, a4, n + 1, c4, by omega, by omega, rfl, by go_num, hide (HMORE.out V _ w4 l a4 c4 _ HM.out HR4.out (HY.out a1 n1 c1) (HB1.out.trans (HX2.out.mono HB1.out.size)) HG4.out.1 HG4.out.2)⟩
          case measure => simp [intOf]; omega
        · have hn1 : 1 ≤ p.n := by omega
          have hd2 : p.tt + wtT p.n ≤ now := by
            unfold rdue at hdue
            simp only [decide_eq_true_eq] at hdue
            omega
          have C31 := hide (fun x => wait_any p.n (wr.drewN x) hn1 hn6)
          have hz' : decide (0 < (p.n : Int)) = true := by simp; omega
          have hw1 : IntKind.i64.wrap (p.tt + wtT p.n) = p.tt + wtT p.n := by have := wtT_le p.n; rw [IntKind.wrap_i64]; omega
          have hl1 : decide (now < p.tt + wtT p.n) = false := by simp; omega
          clear HDUE HNOT hdue hn6 ht1 ht2 HX HTX HTB hfz hp HMR HS hz hd2 d0 d3 HL8 HT HS0
          generalize wtT p.n = wt at *
          generalize (p.n : Int) = ni at *
          generalize p.tt = tt at *
          go_upto_region 6 with fail
          go_big_quiet (first | (go_at_call 31; with_reducible exact Calls.quiet_of_same (C31.out _)))
          go_upto_region 9 with fail
          have HV := hide (HMID.out nq)
          clear HMID d1 d2 c0 c1 c2 c6 c7 f1 f2
          generalize e1 : ((wr.drewN nq).setCell ⟨b, q * 4 + 2, none⟩ (.int .i64 (ni + 1))).setCell ⟨b, q * 4 + 1, none⟩ (.int .i64 now) = V at *
          obtain ⟨l, hm, e0, e3, hC, hK⟩ := HV.out V rfl
          have HM := hide hm
          have C32 := hide hC
          have HKG := hide hK
          clear HV e1 hm hC hK
          generalize k.self = se at *
          generalize k.peer = pe at *
          generalize k.life = li at *
          generalize hal : ((r.all : Nat) : Int) = al at *
          generalize hsq : (p.sq : Int) = sq at *
          have HSA := hide (And.intro hal hsq)
          clear hal hsq
          refine wp_region_noPanic ?_
          refine wp_region_held_drew (S := fun W => W.cell? ⟨b, q * 4, none⟩ = some (.int .i64 sq) ∧ W.cell? ⟨b, q * 4 + 3, none⟩ = some (.slice t.a t.len t.cap)) (by kernel_rfl) (⟨e0, e3⟩) (fun hHeld => ?_)
          refine takeD (i := 0) (d := some 53) (v := ?_) rfl rfl (by kernel_rfl) (by kernel_rfl) (by kernel_rfl) (fun _ _ _ h => h) (Or.inl ⟨by rfl, ?_⟩) (by assumption) ?_
          rotate_left
          · intro w hSw
            go_simp
            try (with_reducible rfl)
          try simp only [Act.put, List.setIfInBounds_toArray, List.set_cons_zero, List.set_cons_succ]
          refine takeD (i := 1) (d := some 54) (v := ?_) rfl rfl (by kernel_rfl) (by kernel_rfl) (by kernel_rfl) (fun _ _ _ h => h) (Or.inl ⟨by rfl, ?_⟩) (by assumption) ?_
          rotate_left
          · intro w hSw
            go_simp
            try (with_reducible rfl)
          try simp only [Act.put, List.setIfInBounds_toArray, List.set_cons_zero, List.set_cons_succ]
          refine takeD (i := 2) (d := some 55) (v := ?_) rfl rfl (by kernel_rfl) (by kernel_rfl) (by kernel_rfl) (fun _ _ _ h => h) (Or.inl ⟨by rfl, ?_⟩) (by assumption) ?_
          rotate_left
          · intro w hSw
            go_simp
            try (with_reducible rfl)
          try simp only [Act.put, List.setIfInBounds_toArray, List.set_cons_zero, List.set_cons_succ]
          refine takeD (i := 3) (d := some 56) (v := ?_) rfl rfl (by kernel_rfl) (by kernel_rfl) (by kernel_rfl) (fun _ _ _ h => h) (Or.inl ⟨by rfl, ?_⟩) (by assumption) ?_
          rotate_left
          · intro w hSw
            go_simp
            try (with_reducible rfl)
          try simp only [Act.put, List.setIfInBounds_toArray, List.set_cons_zero, List.set_cons_succ]
          refine takeD (i := 4) (d := some 57) (v := ?_) rfl rfl (by kernel_rfl) (by kernel_rfl) (by kernel_rfl) (fun _ _ _ h => h) (Or.inl ⟨by rfl, ?_⟩) (by assumption) ?_
          rotate_left
          · intro w hSw
            go_simp
            try (with_reducible rfl)
          try simp only [Act.put, List.setIfInBounds_toArray, List.set_cons_zero, List.set_cons_succ]
          refine takeD (i := 5) (d := some 58) (v := ?_) rfl rfl (by kernel_rfl) (by kernel_rfl) (by kernel_rfl) (fun _ _ _ h => h) (Or.inl ⟨by rfl, ?_⟩) (by assumption) ?_
          rotate_left
          · intro w hSw
            go_simp
            try (with_reducible rfl)
          try simp only [Act.put, List.setIfInBounds_toArray, List.set_cons_zero, List.set_cons_succ]
          refine takeD (i := 6) (d := some 59) (v := ?_) rfl rfl (by kernel_rfl) (by kernel_rfl) (by kernel_rfl) (fun _ _ _ h => h) (Or.inl ⟨by rfl, ?_⟩) (by assumption) ?_
          rotate_left
          · intro w hSw
            go_simp
            try (with_reducible rfl)
          try simp only [Act.put, List.setIfInBounds_toArray, List.set_cons_zero, List.set_cons_succ]
          refine takeD (i := 7) (d := some 60) (v := ?_) rfl rfl (by kernel_rfl) (by kernel_rfl) (by kernel_rfl) (fun _ _ _ h => h) (Or.inl ⟨by rfl, ?_⟩) (by assumption) ?_
          rotate_left
          · intro w hSw
            go_simp
            try (with_reducible rfl)
          try simp only [Act.put, List.setIfInBounds_toArray, List.set_cons_zero, List.set_cons_succ]
          refine takeD (i := 8) (d := some 61) (v := ?_) rfl rfl (by kernel_rfl) (by kernel_rfl) (by kernel_rfl) (fun _ _ _ h => h) (Or.inl ⟨by rfl, ?_⟩) (by assumption) ?_
          rotate_left
          · intro w hSw
            go_simp
            try (with_reducible rfl)
          try simp only [Act.put, List.setIfInBounds_toArray, List.set_cons_zero, List.set_cons_succ]
          refine takeD (i := 9) (d := some 62) (v := ?_) rfl rfl (by kernel_rfl) (by kernel_rfl) (by kernel_rfl) (fun _ _ _ h => h) (Or.inl ⟨by rfl, ?_⟩) (by assumption) ?_
          rotate_left
          · intro w hSw
            go_simp
            try (with_reducible rfl)
          try simp only [Act.put, List.setIfInBounds_toArray, List.set_cons_zero, List.set_cons_succ]
          refine wpAnyH_ready (rs := [10]) (by kernel_rfl) (by simp) ?_
          refine AllReadyH.cons rfl (fun K hK => ?_) AllReadyH.nil
          go_simp
          go_wp2_with (go_at_call 32; go_must ((with_reducible refine (C32.out sq).mono ?_); rintro e w2 ⟨a1, n1, c1, rfl, hT1, hB1⟩))
          have HT1 := hide hT1
          have HB1 := hide (below_undrew1 hB1)
          have g0 := keep_cell e0 HB1.out
          have g3 := keep_cell e3 HB1.out
          clear hT1 hB1
          refine hK.out _ _ (⟨g0, g3⟩) (fun hHeld => ?_)
          clear hK K
          try simp only [Act.put, List.setIfInBounds_toArray, List.set_cons_zero, List.set_cons_succ]
          refine wpAnyH_ready (rs := [11]) (by kernel_rfl) (by simp) ?_
          refine AllReadyH.cons rfl (fun K hK => ?_) AllReadyH.nil
          go_simp
          go_wp2_with fail
          have HX2 := hide (below_new w2 (.cells #[.int .i64 se, .int .i64 pe, .int .i64 li, .int .i64 sq, .int .i64 al, .slice a1 n1 c1] 34))
          have HRX := hide (HM.out.1.below (HB1.out.trans (HX2.out.mono HB1.out.size)))
          have HRD := hide (reads_new w2 (Fm.cs ⟨se, pe, li, sq, al, ⟨a1, n1, c1, t.bs⟩⟩) 34)
          have HTY := hide (HT1.out.below HX2.out)
          have k0 := keep_cell g0 HX2.out
          have k3 := keep_cell g3 HX2.out
          refine hK.out _ _ (⟨k0, k3⟩) (fun hHeld => ?_)
          clear hK K
          try simp only [Act.put, List.setIfInBounds_toArray, List.set_cons_zero, List.set_cons_succ]
          refine wpAnyH_ready (rs := [12]) (by kernel_rfl) (by simp) ?_
          refine AllReadyH.cons rfl (fun K hK => ?_) AllReadyH.nil
          refine app_rf (.tmp 53) (.tmp 64) rfl w.heap.size a n c l rfl HRX.out HN9.out (Nat.le_trans HM.out.2.2.2.1.size (Nat.le_trans HB1.out.size HX2.out.size)) w2.heap.size ⟨se, pe, li, sq, al, ⟨a1, n1, c1, t.bs⟩⟩ rfl HRD.out (HTY.out.mono fun j hj => ⟨Nat.le_trans HM.out.2.2.2.1.size hj.1, Nat.lt_of_lt_of_le hj.2 HX2.out.size⟩) ?_
          intro a4 c4 w4 hr4 hg4 hrow4
          have HR4 := hide hr4
          have HG4 := hide (And.intro hg4 hrow4)
          have HK4 := hide (HKG.out _ w4 (HB1.out.trans (HX2.out.mono HB1.out.size)) hg4 hrow4)
          have m0 := HK4.out.1
          have m3 := HK4.out.2
          clear hr4 hg4 hrow4
          refine hK.out _ _ (⟨m0, m3⟩) (fun hHeld => ?_)
          clear hK K
          try simp only [Act.put, List.setIfInBounds_toArray, List.set_cons_zero, List.set_cons_succ]
          refine takeD (i := 13) (d := some 5) (v := ?_) rfl rfl (by kernel_rfl) (by kernel_rfl) (by kernel_rfl) (fun _ _ _ h => h) (Or.inl ⟨by rfl, ?_⟩) (by assumption) ?_
          rotate_left
          · intro w hSw
            go_simp
            try (with_reducible rfl)
          try simp only [Act.put, List.setIfInBounds_toArray, List.set_cons_zero, List.set_cons_succ]
          refine wpAnyH_done (by kernel_rfl) ?_ _
          refine NoPanic.normal ?_
          go_wp2_with fail
          go_roundw
          case rel => exact ⟨q + 1, a4, n + 1, c4, by omega, by omega, rfl, by go_num, hide (HMORE.out V _ w4 l a4 c4 _ HM.out HR4.out (HY.out a1 n1 c1) (HB1.out.trans (HX2.out.mono HB1.out.size)) HG4.out.1 HG4.out.2)⟩
          case measure => simp [intOf]; omega
    · obtain rfl : q = r.op.length := by omega
      obtain ⟨l, hR, hl, hk, hkp, hE, hn⟩ := HS.out.fin
      obtain ⟨c0, c1, c2, c6, c9, f9, -⟩ := hk.cells
      have c6' : wr.cell? ⟨g, 6, none⟩ = some (.int .i64 (r.all : Nat)) := c6
      have c9' : wr.cell? ⟨g, 9, none⟩ = some (.bool r.ow) := c9
      have hl6 : r.op.length ≤ 1000000 := HL8.out
      obtain ⟨oa, oc, c7⟩ : ∃ oa oc, wr.cell? ⟨g, 7, none⟩ = some (.slice oa r.op.length oc) := by
        obtain ⟨-, -, -, -, -, -, oa, oc, c7⟩ := hk.cells
        exact ⟨oa, oc, by simpa using c7⟩
      clear c6 c9
      by_cases h0 : n = 0
      · subst h0
        have HP0 := hide (show rdueF now r.op = [] from List.eq_nil_of_length_eq_zero (by omega))
        have HR := hide hR
        have HB0 := hide hkp.size
        by_cases how : r.ow = true
        · rw [how] at c9'
          have HE1 := hide (fun X w4 a4 c4 a1 n1 c1 hb hr4 hg hrow => rout_one (a := a) (c := c) (X := X) (w4 := w4) (a4 := a4) (c4 := c4) (a1 := a1) (n1 := n1) (c1 := c1) hl hk hkp hE HP0.out how hb hr4 hg hrow)
          have HC9 := hide (fun X w4 hb hg hrow => rout_cells (a := a) (c := c) (X := X) (w4 := w4) hk hE hb hg hrow hkp.size)
          have C32 := hide (rframe_any g k.self k.peer k.life 0 (r.all : Nat) none 0 0 [] wr c0 c1 c2 c6' rfl (fun x hx => by cases hx) (by omega) (.inl rfl) (fun _ => ⟨rfl, rfl⟩))
          clear hR hl hk hkp hE hn HS HS0 HT HL8 hnq hq hlt
          generalize k.self = se at *
          generalize k.peer = pe at *
          generalize k.life = li at *
          generalize ((r.all : Nat) : Int) = al at *
          go_upto_region 12 with (first
            | (go_at_call 32; go_must ((with_reducible refine C32.out.mono ?_); rintro e w2 ⟨a1, n1, c1, rfl, hT1, hB1⟩; have HB1 := hide hB1; have HX2 := hide (below_new w2 (.cells #[.int .i64 se, .int .i64 pe, .int .i64 li, .int .i64 0, .int .i64 al, .slice a1 n1 c1] 34)); have HRX := hide (HR.out.below (HB1.out.trans (HX2.out.mono HB1.out.size))); have HRD := hide (reads_new w2 (Fm.cs ⟨se, pe, li, 0, al, ⟨a1, n1, c1, []⟩⟩) 34); have HTY := hide (hT1.below HX2.out); clear hT1 hB1))
            | (at_builtin; go_must (refine append_f rfl (.tmp 75) (.tmp 78) rfl w.heap.size a 0 c l rfl HRX.out (by omega) (Nat.le_trans HB0.out (Nat.le_trans HB1.out.size HX2.out.size)) w2.heap.size ⟨se, pe, li, 0, al, ⟨a1, n1, c1, []⟩⟩ rfl HRD.out (HTY.out.mono fun j hj => ⟨Nat.le_trans HB0.out hj.1, Nat.lt_of_lt_of_le hj.2 HX2.out.size⟩) ?_; intro a4 c4 w4 hr4 hg4 hrow4; have HR4 := hide hr4; have HG4 := hide (And.intro hg4 hrow4); clear hr4 hg4 hrow4)))
          have b9 := (HC9.out _ w4 (HB1.out.trans (HX2.out.mono HB1.out.size)) HG4.out.1 HG4.out.2).1
          have e9 := (HC9.out _ w4 (HB1.out.trans (HX2.out.mono HB1.out.size)) HG4.out.1 HG4.out.2).2
          go_wp2_with fail
          go_ret
          exact HE1.out _ w4 a4 c4 a1 n1 c1 (HB1.out.trans (HX2.out.mono HB1.out.size)) HR4.out HG4.out.1 HG4.out.2
        · have how' : r.ow = false := by simpa using how
          rw [how'] at c9'
          have hL : routL now r = { r with op := r.op.map (rgo now) } := by
            unfold routL routP
            rw [HP0.out]
            simp [how']
          have HE2 := hide (show ROQ E w g k r now (.returned (.slice a 0 c)) wr from ⟨a, 0, c, l, rfl, hR, by rw [hl]; unfold routP; rw [HP0.out, how']; rfl, by rw [hL]; exact hk, hkp⟩)
          clear hR hl hk hkp hE hn HS HS0 HT HL8 hnq hq hlt how
          go_wp2_with fail
          go_ret
          exact HE2.out
      · have hn0 : 0 < n := by omega
        have HE3 := hide (rout_set hR (by rw [hl]; unfold routP; rw [if_neg (by simp only [Bool.and_eq_true, List.isEmpty_iff, not_and]; intro e; rw [e] at hn; simp at hn; omega)]) hk hkp hE hn0)
        clear hR hl hk hkp hE hn HS HS0 HT HL8 hnq hq hlt
        go_wp2_with fail
        go_ret
        exact HE3.out
end Go.Proofs.Ytofigofaiadffaa
