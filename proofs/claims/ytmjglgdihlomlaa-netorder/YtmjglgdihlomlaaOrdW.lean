/- NetOrder answers true. -/
import Derived.Test.YtmjglgdihlomlaaOrdP
import Derived.Deep.CutRange
namespace Go.Proofs.Ytmjglgdihlomlaa
namespace netOrder
open Go.RowKit Go.ChangeShapes Go.WideShapes Go.ChangeAt Go.Deep

theorem map_eraseP (l : List Nat) (k : Nat) : (l.eraseIdx k).map pk = (l.map pk).eraseIdx k := by
  induction l generalizing k with
  | nil => rfl
  | cons a r ih =>
    cases k with
    | zero => rfl
    | succ k => simp [List.eraseIdx, ih]
/-- What is there behind a Deliver: a number less on the way, the row of numbers as it was. -/
def DelS (B : Nat) (w w1 : World) (cb : Nat) (v : Value) (lf : List Nat) (k : Nat) (D : Nat → Prop) : Prop :=
  NetP D w1 cb ((lf.eraseIdx k).map pk) ∧ (∀ q, D q → B ≤ q) ∧ w1.ownsRow B 3 1 v lf.length (iV (nI lf)) ∧ Below B w w1
theorem ord_del {B : Nat} {w wr : World} {cb : Nat} {v : Value} {lf : List Nat} {k : Nat} (h : OrdS B w wr cb v lf) (hB : B ≤ wr.heap.size) (hk : k < lf.length) (hL : lf.length ≤ 200) :
    Calls Try.prog 12 #[.pointer (some ⟨cb, 0, none⟩), .int .i64 (k : Int)] wr fun e w' => ∃ q c, e = .returned (.tuple #[.agg #[.int .i64 (lf[k] : Int), .int .i64 ((lf[k] : Int) + 1), .slice (some ⟨q, 0, none⟩) 1 c], .bool true]) ∧ w'.cell? ⟨q, 0, none⟩ = some (.int .u8 (lf[k] : Int)) ∧ ∃ D, DelS B w w' cb v lf k D := by
  obtain ⟨D, h1, h2, h3, h4, h5⟩ := h
  have e : (lf.map pk)[k]'(by simpa using hk) = pk lf[k] := List.getElem_map _
  have := deliver_yes D wr cb (lf.map pk) k h1 (by simpa using hk) (by rw [List.length_map]; omega) (by rw [e]; simp [pk])
  rw [e] at this
  refine this.mono ?_
  rintro e w' ⟨a, n, c, rfl, ho, hN, hK⟩
  rcases ho.2 with ⟨e0, h0⟩ | ⟨q, cap, cur, e0, q1, q2, q3⟩
  · simp [pk] at h0
  · simp only [Value.slice.injEq] at e0
    obtain ⟨rfl, rfl, rfl⟩ := e0
    refine ⟨q, c, rfl, ?_, D, by rw [map_eraseP]; exact hN, h2, own_keep3 h3 (fun g hg => hK.block g (h3.lt g hg).2 (h4 g hg)), h5.trans (hK.to_below hB h2)⟩
    have := ho.cells (g := q) rfl 0 (.int .u8 (lf[k] : Int)) rfl
    rwa [add_none] at this
/-- The row of numbers, written out. -/
theorem own_int {B m : Nat} {w : World} {v : Value} {lf : List Nat} (h : w.ownsRow B 3 1 v lf.length (iV (nI lf))) (hm : lf.length = m) (h0 : 0 < m) : ∃ g c, v = .slice (some ⟨g, 0, none⟩) m c ∧ m ≤ c ∧ c ≤ maxLen ∧ ∀ j (hj : j < lf.length), w.cell? ⟨g, j, none⟩ = some (.int .i64 (lf[j] : Int)) := by
  rcases h.2 with ⟨_, h1⟩ | ⟨g, c, cur, rfl, _, _, h3, h4, _⟩
  · omega
  · refine ⟨g, c, by rw [hm], by omega, h4, fun j hj => ?_⟩
    have := h.cells (g := g) rfl j (.int .i64 (lf[j] : Int)) (by simp [iV, nI, hj])
    rw [add_none, Nat.zero_add] at this
    exact this
def atk (g c k : Nat) : Addr := if c = k then ⟨g, 0, none⟩ else ⟨g, k, none⟩
theorem slice_fromI (w : World) (g n c k : Nat) (hk : k ≤ n) : (Instr.slice 31 (.slice (some ⟨g, 0, none⟩) n c) (some (.int .i64 (k : Int))) none none).run Try.prog w = .ok (.slice (some (atk g c k)) (n - k) (c - k)) w := by
  simp [Instr.slice, run_underlying Try.underlying31, Instr.sliceBounds, run_sliceBound (P := Try.prog) w .i64 (k : Int) n .sliceB (by omega) (by omega)]
  unfold atk
  split <;> simp [add_none]
theorem slice_toI (w : World) (a : Option Addr) (n c k : Nat) (hk : k ≤ c) : (Instr.slice 31 (.slice a n c) none (some (.int .i64 (k : Int))) none).run Try.prog w = .ok (.slice a k c) w := by
  simp [Instr.slice, run_underlying Try.underlying31, Instr.sliceBounds, run_sliceBound (P := Try.prog) w .i64 (k : Int) c .sliceAcap (by omega) (by omega)]
  cases a <;> simp [Addr.add_zero']
/-- Behind the appends: the number is not left. -/
theorem ord_cut {B : Nat} {w w1 X1 w2 w3 w4 : World} {cb : Nat} {v v3 v4 : Value} {lf : List Nat} {k : Nat} {D : Nat → Prop} (h : DelS B w w1 cb v lf k D) (hB : B ≤ w1.heap.size) (hX : Below w1.heap.size w1 X1) (h12 : Below X1.heap.size X1 w2) (h23 : Below w2.heap.size w2 w3)
    (ho3 : w3.ownsRow w2.heap.size 3 1 v3 (lf.take k).length (iV (nI (lf.take k)))) (h34 : w3.grownBy w4 v3.ownBlock) (ho4 : w4.ownsRow w2.heap.size 3 1 v4 (lf.eraseIdx k).length (iV (nI (lf.eraseIdx k)))) : OrdS B w w4 cb v4 (lf.eraseIdx k) := by
  obtain ⟨h1, h2, h3, h5⟩ := h
  have hD := h1.lt
  have s1 := hX.size
  have s2 := h12.size
  have s3 := h23.size
  have b3 : Below w1.heap.size w1 w3 := (hX.trans (h12.mono s1)).trans (h23.mono (by omega))
  refine ⟨D, (h1.below b3).keep h34.size (fun q hq hlt => h34.block q hlt (fun e => ?_)), h2, own_mono3 ho4 (by omega), fun g e hd => ?_, ?_⟩
  · have := (ho3.lt q e.symm).1
    have := hD q hq
    omega
  · have := (ho4.lt g e).1
    have := hD g hd
    omega
  · exact (h5.trans (b3.mono hB)).grown h34 (by omega) (fun q hq => by have := (ho3.lt q hq).1; omega)
theorem reads_from {Y : World} {g cv k : Nat} {lf : List Nat} (h : ∀ i u, (iV (nI lf))[i]? = some u → Y.cell? ((⟨g, 0, none⟩ : Addr).add i) = some u) (hc : lf.length ≤ cv) : Reads Y (some (atk g cv k)) (iV (nI (lf.drop k))) := by
  by_cases e : cv = k
  · left
    rw [List.drop_eq_nil_of_le (by omega)]; rfl
  · right
    refine ⟨g, k, by unfold atk; rw [if_neg e], fun j u hu => ?_⟩
    have h2 := h (k + j) u (by
      rw [← hu]
      simp [iV, nI, List.getElem?_drop])
    rw [add_none, Nat.zero_add] at h2
    exact h2
theorem reads_to {Y : World} {g k : Nat} {lf : List Nat} (h : ∀ i u, (iV (nI lf))[i]? = some u → Y.cell? ((⟨g, 0, none⟩ : Addr).add i) = some u) : Reads Y (some ⟨g, 0, none⟩) (iV (nI (lf.take k))) := by
  right
  refine ⟨g, 0, rfl, fun j u hu => ?_⟩
  have hj : j < k := by
    have := (List.getElem?_eq_some_iff.1 hu).1
    rw [iV_len, nI_len, List.length_take] at this
    omega
  have h2 := h j u (by
    rw [← hu]
    simp [iV, nI, hj])
  rw [add_none] at h2
  exact h2
theorem own_open3 {w : World} {B n : Nat} {v : Value} {xs : List Int} (h : w.ownsRow B 3 1 v n (iV xs)) (hl : xs.length = n) : ∃ a c, v = .slice a n c ∧ (a = none → n = 0 ∧ c = 0) ∧ Reads w a (iV xs) := by
  rcases h.2 with ⟨rfl, rfl⟩ | ⟨g, cap, cur, rfl, _⟩
  · exact ⟨none, 0, rfl, fun _ => ⟨rfl, rfl⟩, .inl (by rw [List.eq_nil_of_length_eq_zero hl]; rfl)⟩
  · refine ⟨_, cap, rfl, (fun e => by cases e), .inr ⟨g, 0, rfl, fun j u hu => ?_⟩⟩
    have := h.cells (g := g) rfl j u hu
    rwa [add_none] at this
theorem erase_len (lf : List Nat) (k : Nat) (hk : k < lf.length) : (lf.eraseIdx k).length = lf.length - 1 := List.length_eraseIdx_of_lt hk
theorem nI_erase (lf : List Nat) (k : Nat) : nI (lf.eraseIdx k) = nI (lf.take k) ++ nI (lf.drop (k + 1)) := by
  rw [List.eraseIdx_eq_take_drop_succ]; simp [nI]
theorem mem_erase_lt {lf : List Nat} {k b : Nat} (h : ∀ x ∈ lf, x < b) : ∀ x ∈ lf.eraseIdx k, x < b := fun x hx => h x (List.mem_of_mem_eraseIdx hx)

set_option maxRecDepth 100000 in
set_option maxHeartbeats 1000000 in
theorem walk_skip (n : Int) (a : Option Addr) (m c : Nat) (w : World) (h : n < 0 ∨ 100 < n ∨ 100 < m) : Calls Try.prog 5 #[.int .i64 n, .slice a m c] w fun e w' => e = .returned (.bool true) ∧ Below w.heap.size w w' := by
  by_cases h1 : n < 0
  · clear h
    go_enter Try.func5, Try.ntmps5
    go_wp2_with (go_at_call 7; go_must ((with_reducible refine (alive_any w).mono ?_); rintro e w1 ⟨rfl, hb1⟩))
    go_ret
    exact ⟨rfl, hb1⟩
  · by_cases h2 : 100 < n
    · clear h
      go_enter Try.func5, Try.ntmps5
      go_wp2_with (go_at_call 7; go_must ((with_reducible refine (alive_any w).mono ?_); rintro e w1 ⟨rfl, hb1⟩))
      go_ret
      exact ⟨rfl, hb1⟩
    · have h3 : (100 : Int) < (m : Int) := by omega
      clear h
      go_enter Try.func5, Try.ntmps5
      go_wp2_with (go_at_call 7; go_must ((with_reducible refine (alive_any w).mono ?_); rintro e w1 ⟨rfl, hb1⟩))
      go_ret
      exact ⟨rfl, hb1⟩

set_option maxRecDepth 100000 in
set_option maxHeartbeats 8000000 in
theorem walk_main (n : Nat) (a : Option Addr) (m c : Nat) (ps : List Int) (w : World) (hn : n ≤ 100) (hm : m ≤ 100) (hl : ps.length = m) (hr : Reads w a (iV ps)) :
    Calls Try.prog 5 #[.int .i64 (n : Int), .slice a m c] w fun e w' => e = .returned (.bool true) ∧ Below w.heap.size w w' := by
  have C9 := hide (fun W => new_any W)
  have HR := hide hr
  have HL := hide hl
  have hmi : (m : Int) ≤ 100 := by omega
  clear hr hl
  go_enter Try.func5, Try.ntmps5
  go_wp2_with (first
    | (go_at_call 7; go_must ((with_reducible refine (alive_any w).mono ?_); rintro e w1 ⟨rfl, hb1⟩; have HB1 := hide hb1; clear hb1))
    | (go_at_call 9; go_must ((with_reducible refine (C9.out w1).mono ?_); rintro e w2 ⟨cb, rfl, hN2, hcb, hb2⟩; have HB2 := hide (HB1.out.trans (hb2.mono HB1.out.size)); have HO2 := hide (show OrdS w.heap.size w w2 cb (.slice none 0 0) [] from ⟨_, hN2, fun k hk => by have := HB1.out.size; omega, World.ownsRow_nil _ _ _ _, (fun g e => by cases e), HB2.out⟩); clear hN2 hcb hb2)))
  go_loopw [7, 8] (fun v i wr => Hid (w.heap.size ≤ wr.heap.size) ∧ ∃ (k : Nat) (av : Option Addr) (cv : Nat), k ≤ n ∧ i = .int .i64 (k : Nat) ∧ v = .slice av k cv ∧ Hid (OrdS w.heap.size w wr cb (.slice av k cv) (List.range k))) (fun _ i _ => n - (intOf i).toNat)
  case atStart => exact ⟨hide HB2.out.size, 0, none, 0, Nat.zero_le _, rfl, rfl, HO2⟩
  case round =>
    obtain ⟨hsz, k, av, cv, hk, rfl, rfl, HO⟩ := hrel
    by_cases hlt : k < n
    · have C10 := hide (ord_send (i := k) HO.out hsz.out (by omega) (by rw [List.length_range]; omega))
      have kw : IntKind.u8.wrap (k : Int) = (k : Int) := by
        unfold IntKind.wrap
        simp [IntKind.signed, IntKind.bits]
        omega
      have hkk : (k : Int) ≤ 100 := by omega
      go_wp2_with (first
        | (go_at_call 10; go_must ((with_reducible refine C10.out.mono ?_); rintro e w3 ⟨rfl, hO3⟩; have HO3 := hide hO3; obtain ⟨D3, hN3, hD3, hW3, hG3, hB3⟩ := hO3; have hs3 : w.heap.size ≤ w3.heap.size := hB3.size; have HS3 := hide hs3; have hX := below_new w3 (.cells #[.int .i64 (k : Int)] 3); have HX := hide hX; have hW4 : (w3.alloc (.cells #[.int .i64 (k : Int)] 3)).ownsRow w.heap.size 3 1 (.slice av k cv) k (iV (nI (List.range k))) := (by have h := own_keep3 hW3 (fun g hg => hX.block g (hW3.lt g hg).2); rw [List.length_range] at h; exact h); have HW4 := hide hW4; clear hN3 hD3 hW3 hG3 hB3 hX hW4 hs3))
        | (at_builtin; go_must (refine append_where rfl (.tmp 49) (.tmp 51) rfl w.heap.size (.slice av k cv) k (nI (List.range k)) rfl HW4.out (some ⟨w3.heap.size, 0, none⟩) 1 1 [(k : Int)] rfl (fun e => by cases e) rfl (reads_new w3 (iV [(k : Int)]) 3) (by omega) (by have := HS3.out; simp; omega) ?_; intro v5 w5 ho5 hg5 hw5)))
      obtain ⟨a5, c5, e5⟩ : ∃ a5 c5, v5 = .slice a5 (k + 1) c5 := by
        rcases ho5.2 with ⟨rfl, h⟩ | ⟨g, cap, cur, rfl, _⟩
        · omega
        · exact ⟨_, _, rfl⟩
      subst e5
      have HO5 := hide (ord_more (lf := List.range k) (i := k) HO3.out HS3.out _ HX.out (by rw [List.length_range]; exact ho5) hg5 hw5)
      rw [← List.range_succ] at HO5
      have HS5 := hide (Nat.le_trans HS3.out (Nat.le_trans HX.out.size hg5.size))
      clear ho5 hg5 hw5
      go_wp2
      go_roundw
      case rel => exact ⟨HS5, k + 1, a5, c5, by omega, by go_num, rfl, HO5⟩
      case measure => simp [intOf]; omega
    · obtain rfl : k = n := by omega
      go_wp2_with fail
      go_loopw [7, 9] (fun v i wr => Hid (w.heap.size ≤ wr.heap.size) ∧ ∃ (j : Nat) (lf : List Nat) (av : Option Addr) (cv : Nat), j ≤ k ∧ i = .int .i64 (j : Nat) ∧ v = .slice av (k - j) cv ∧ Hid (lf.length = k - j ∧ ∀ x ∈ lf, x < 256) ∧ Hid (OrdS w.heap.size w wr cb (.slice av (k - j) cv) lf)) (fun _ i _ => k - (intOf i).toNat)
      case atStart => exact ⟨hsz, 0, List.range k, av, cv, Nat.zero_le _, rfl, by simp, hide ⟨by simp, fun x hx => by simp at hx; omega⟩, by simpa using HO⟩
      case round =>
        clear HO hsz
        obtain ⟨hsz, j, lf, av, cv, hj, rfl, rfl, HLF, HO⟩ := hrel
        have hBw := hide (show Below w.heap.size w wr from HO.out.choose_spec.2.2.2.2)
        by_cases hlt2 : j < k
        · obtain ⟨q, hq⟩ : ∃ q, q = k - j := ⟨_, rfl⟩
          rw [← hq] at HLF HO ⊢
          have HQ := hide hq
          clear hq
          have hq0 : 0 < q := by have := HQ.out; omega
          have hq1 : q ≤ 100 := by have := HQ.out; omega
          have hqi : (q : Int) ≠ 0 := by omega
          go_upto_if 61 with fail
          go_cut [10] from 58 to 69 (fun v wc => wr = wc ∧ ∃ kk : Nat, kk < q ∧ v = .int .i64 (kk : Int))
          case first =>
            by_cases hjm : j < m
            · have hjl : j < ps.length := by have := HL.out; omega
              obtain ⟨b, off, har, hcs⟩ := reads_at (HR.out.below (hBw.out)) hjl
              subst har
              have hcell := hcs.out j (.int .i64 ps[j]) (by simp [iV, hjl])
              have hmk := mask127 ps[j]
              obtain ⟨x, hx⟩ : ∃ x : Nat, ps[j] % 128 = (x : Int) := ⟨(ps[j] % 128).toNat, by omega⟩
              rw [hx] at hmk
              generalize ps[j] = p at hcell hmk hx
              have hxr : (x : Int).tmod (q : Int) = ((x % q : Nat) : Int) := by rw [Int.tmod_eq_emod_of_nonneg (by omega)]; simp
              have hjm' : (j : Int) < (m : Int) := by omega
              have hxq : x % q < q := Nat.mod_lt _ hq0
              clear hx hcs hjl
              go_wp2

              go_meet
              exact ⟨rfl, x % q, hxq, rfl⟩
            · have hjm' : ¬ (j : Int) < (m : Int) := by omega
              go_wp2
              go_meet
              exact ⟨rfl, 0, hq0, rfl⟩
          case rest =>
            obtain ⟨rfl, kk, hkq, rfl⟩ := hcut
            obtain ⟨D0, -, -, hOw, -, -⟩ := HO.out
            obtain ⟨g, c', e, hqc, hcm, hcl⟩ := own_int hOw HLF.out.1 hq0
            simp only [Value.slice.injEq, true_and] at e
            obtain ⟨rfl, rfl⟩ := e
            have hkl : kk < lf.length := by rw [HLF.out.1]; exact hkq
            have C12 := hide (ord_del HO.out hsz.out hkl (by rw [HLF.out.1]; omega))
            have hz := HLF.out.2 lf[kk] (List.getElem_mem _)
            have HCl := hide (fun (W : World) (h : W.ownsRow w.heap.size 3 1 (.slice (some ⟨g, 0, none⟩) q cv) lf.length (iV (nI lf))) => (show W.cell? ⟨g, kk, none⟩ = some (.int .i64 (lf[kk] : Int)) from by
              obtain ⟨g', c', e, _, _, h2⟩ := own_int h HLF.out.1 hq0
              simp only [Value.slice.injEq, Option.some.injEq, Addr.mk.injEq] at e
              obtain ⟨⟨rfl, _⟩, _⟩ := e
              exact h2 kk hkl))
            generalize lf[kk] = z at C12 hz HCl
            have hkqi : (kk : Int) < (q : Int) := by omega
            have HKL := hide hkl
            have HHM := hide hcm
            clear hOw hcl hkl hcm
            have kf : ∀ W, (Instr.slice 31 (.slice (some ⟨g, 0, none⟩) q cv) (some (.int .i64 ((kk : Int) + 1))) none none).run Try.prog W = .ok (.slice (some (atk g cv (kk + 1))) (q - (kk + 1)) (cv - (kk + 1))) W := fun W => slice_fromI W g q cv (kk + 1) (by omega)
            have kt := fun W => slice_toI W (some ⟨g, 0, none⟩) q cv kk (by omega)
            go_upto_region 18 with (go_at_call 12; go_must ((with_reducible refine C12.out.mono ?_); rintro e w3 ⟨qq, c3, rfl, hb3, D3, hS3⟩; have HS3 := hide hS3; have hZ := HCl.out w3 hS3.2.2.1; have HZS := hide (Nat.le_trans hsz.out (Nat.le_refl _)); clear hS3))
            have hXb := below_new w3 (.cells #[.int .i64 (z : Int), .int .i64 ((z : Int) + 1), .slice (some ⟨qq, 0, none⟩) 1 c3] 37)
            have hBx := BoxL.new w3 [.int .i64 (z : Int), .int .i64 ((z : Int) + 1), .slice (some ⟨qq, 0, none⟩) 1 c3] 37
            have hb3' := keep_cell hb3 hXb
            have hZ' := keep_cell hZ hXb
            generalize w3.alloc (.cells #[.int .i64 (z : Int), .int .i64 ((z : Int) + 1), .slice (some ⟨qq, 0, none⟩) 1 c3] 37) = X at hXb hBx hb3' hZ' ⊢
            obtain ⟨x0, x1, x2⟩ := hBx.c3
            have HX := hide hXb
            clear hXb hBx hb3 hZ
            go_big_quiet (fail)
            have HY := hide (show Below w3.heap.size w3 (X.drewN nq) from netFlips.below_drewN HX.out nq)
            clear hb3' hZ' x0 x1 x2
            generalize X.drewN nq = Y at HY ⊢
            have hoY : Y.ownsRow w.heap.size 3 1 (.slice (some ⟨g, 0, none⟩) q cv) lf.length (iV (nI lf)) := own_keep3 HS3.out.2.2.1 (fun i hi => HY.out.block i (HS3.out.2.2.1.lt i hi).2)
            have HCY := hide (fun i u h => hoY.cells (g := g) rfl i u h)
            have HRd := hide (show Reads Y (some (atk g cv (kk + 1))) (iV (nI (lf.drop (kk + 1)))) from reads_from HCY.out (by have := HLF.out.1; omega))
            have HRt := hide (show Reads Y (some ⟨g, 0, none⟩) (iV (nI (lf.take kk))) from reads_to HCY.out)
            have hd1 : (nI (lf.drop (kk + 1))).length = q - (kk + 1) := by rw [nI_len, List.length_drop, HLF.out.1]
            have hd2 : (nI (lf.take kk)).length = kk := by rw [nI_len, List.length_take, HLF.out.1]; omega
            have HD1 := hide hd1
            have HD2 := hide hd2
            clear hoY hd1 hd2
            go_wp2_with (first
              | (at_builtin; (refine append_where rfl (.const (.slice none 0 0)) (.tmp 108) rfl Y.heap.size (.slice none 0 0) 0 [] rfl (World.ownsRow_nil _ _ _ _) (some (atk g cv (kk + 1))) (q - (kk + 1)) (cv - (kk + 1)) (nI (lf.drop (kk + 1))) rfl (fun e => by cases e) HD1.out HRd.out (by omega) (Nat.le_refl _) ?_; intro v4 w4 ho4 hg4 _; rw [Nat.zero_add, List.nil_append] at ho4; have HB4 := hide (below_of hg4); have HO4 := hide ho4; obtain ⟨a4, c4, e4, hn4, hr4⟩ := own_open3 ho4 HD1.out; subst e4; have HR4 := hide hr4; have HN4 := hide hn4; clear ho4 hg4 hr4 hn4))
              | (at_builtin; (refine append_where rfl (.const (.slice none 0 0)) (.tmp 112) rfl w4.heap.size (.slice none 0 0) 0 [] rfl (World.ownsRow_nil _ _ _ _) (some ⟨g, 0, none⟩) kk cv (nI (lf.take kk)) rfl (fun e => by cases e) HD2.out (HRt.out.below HB4.out) (by omega) (Nat.le_refl _) ?_; intro v5 w5 ho5 hg5 _; rw [Nat.zero_add, List.nil_append] at ho5; have HB5 := hide (below_of hg5); have HO5 := hide ho5; obtain ⟨a5, c5, e5, -, -⟩ := own_open3 ho5 HD2.out; subst e5; clear ho5 hg5))
              | (at_builtin; (refine append_where rfl (.tmp 113) (.tmp 114) rfl w4.heap.size (.slice a5 kk c5) kk (nI (lf.take kk)) rfl HO5.out a4 (q - (kk + 1)) c4 (nI (lf.drop (kk + 1))) rfl HN4.out HD1.out (HR4.out.below HB5.out) (by omega) HB5.out.size ?_; intro v6 w6 ho6 hg6 _)))
            rw [← nI_erase] at ho6
            have hel : (lf.eraseIdx kk).length = kk + (q - (kk + 1)) := by rw [erase_len lf kk HKL.out, HLF.out.1]; omega
            have HO6 := hide (ord_cut HS3.out (HS3.out.2.2.2.size) HY.out HB4.out HB5.out (by rw [List.length_take, HLF.out.1, show min kk q = kk by omega]; exact HO5.out) hg6 (by rw [hel]; exact ho6))
            have hS6 : w.heap.size ≤ w6.heap.size := Nat.le_trans (Nat.le_trans (Nat.le_trans (Nat.le_trans HS3.out.2.2.2.size HY.out.size) HB4.out.size) HB5.out.size) hg6.size
            obtain ⟨a6, c6, e6, -, -⟩ := own_open3 ho6 (by rw [nI_len, hel])
            subst e6
            have hkj : kk + (q - (kk + 1)) = k - (j + 1) := by have := HQ.out; omega
            rw [hkj] at HO6 hel
            have HLF6 := hide (show (lf.eraseIdx kk).length = k - (j + 1) ∧ ∀ x ∈ lf.eraseIdx kk, x < 256 from ⟨hel, mem_erase_lt HLF.out.2⟩)
            have HS6 := hide hS6
            have HKJ := hide hkj
            clear ho6 hg6 hel hS6 hkj
            go_wp2
            go_roundw
            case rel => exact ⟨HS6, j + 1, _, a6, c6, by omega, by go_num, by rw [HKJ.out], HLF6, HO6⟩
            case measure => simp [intOf]; omega
        · obtain rfl : j = k := by omega
          have hl0 : lf = [] := List.eq_nil_of_length_eq_zero (by have := HLF.out.1; omega)
          subst hl0
          obtain ⟨D0, hN0, hD0, -, -, hB0⟩ := HO.out
          have C12 := hide (deliver_no D0 wr cb [] 0 hN0 (by simp [hasB]))
          have HN0 := hide (show NetP D0 wr cb [] from hN0)
          have HB0 := hide hB0
          clear hN0 hD0 hB0
          go_wp2_with (first
            | (go_at_call 12; go_must ((with_reducible refine C12.out.mono ?_); rintro e w3 ⟨rfl, hb3⟩; have C22 := hide (way_any D0 (w3.alloc (.cells #[.int .i64 0, .int .i64 0, .slice none 0 0] 37)) cb [] ((HN0.out.below hb3).below (below_new _ _)) (by simp) (by simp)); have HB3 := hide (HB0.out.trans (hb3.mono hsz.out)); clear hb3))
            | (go_at_call 22; go_must ((with_reducible refine C22.out.mono ?_); rintro e w4 ⟨a4, n4, c4, l4, rfl, hR4, hl4, hb4⟩; have hn4 : n4 = 0 := (by rw [← hR4.1.1.1, ← List.length_map (f := Pm.p), hl4]; rfl); subst hn4; have HB4 := hide hb4; clear hR4 hl4 hb4)))
          go_ret
          refine ⟨rfl, ?_⟩
          have h3 := HB3.out
          exact (h3.alloc h3.size _).trans (HB4.out.mono (by have := h3.size; simp; omega))

/-- NetOrder answers true for every input. -/
theorem walk (x0 : Int) (a1 : Option Addr) (l1 c1 : Nat) (x1 : List Int) (W : World) (_h0 : -9223372036854775808 ≤ x0 ∧ x0 ≤ 9223372036854775807) (hl : x1.length = l1) (_hB : In64 x1) (hr : Reads W a1 (iV x1)) : Calls Try.prog 5 #[.int .i64 x0, .slice a1 l1 c1] W fun e w' => e = .returned (.bool true) ∧ Below W.heap.size W w' := by
  by_cases h : x0 < 0 ∨ 100 < x0 ∨ 100 < l1
  · exact walk_skip x0 a1 l1 c1 W h
  · obtain ⟨n, rfl⟩ : ∃ n : Nat, x0 = (n : Int) := ⟨x0.toNat, by omega⟩
    exact walk_main n a1 l1 c1 x1 W (by omega) (by omega) hl hr
end netOrder
end Go.Proofs.Ytmjglgdihlomlaa
