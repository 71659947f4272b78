/- CheckTall's walk. -/
import Derived.Test.YtfdgkeljnmamiaaDoorAlive
namespace Go.Proofs.YtfdgkeljnmamiaaDoor
open Go.RowKit Go.ChangeShapes Go.WideShapes Go.ChangeAt Go.Deep

theorem Tryd.info39 : (Tryd.prog.info? 39).map (fun i => (i.zero, i.size, i.bytes)) = some (some (.agg #[.int .i64 0, .int .i64 0]), 2, 16) := by kernel_rfl
theorem cells_new (w : World) (l : List Value) (t : TypeId) : ∀ j u, l[j]? = some u → (w.alloc (.cells l.toArray t)).cell? ((⟨w.heap.size, 0, none⟩ : Addr).add j) = some u := by
  intro j u hu
  rw [add_none, Nat.zero_add]
  exact cell_row (cs := l) (heap_alloc_new w _) hu
theorem own_code {w : World} {B n : Nat} {v : Value} {code : List (Int × Int)} (h : w.ownsRow B 39 2 v n (insV code)) : ∃ a cap, v = .slice a n cap ∧ Reads w a (insV code) := by
  rcases h.2 with ⟨rfl, e⟩ | ⟨g, cap, cur, rfl, _⟩
  · refine ⟨none, 0, by rw [e], .inl ?_⟩
    have := h.1
    rw [e] at this
    exact List.eq_nil_of_length_eq_zero (by omega)
  · refine ⟨_, cap, rfl, .inr ⟨g, 0, rfl, fun j u hu => ?_⟩⟩
    have := h.cells (g := g) rfl j u hu
    rwa [add_none] at this
theorem insV_app (a b : List (Int × Int)) : insV (a ++ b) = insV a ++ insV b := by simp [insV]

def tallC (n : Nat) : List (Int × Int) := (List.range n).map fun (i : Nat) => ((1 : Int), (i : Int))
theorem tallC_succ (n : Nat) : tallC (n + 1) = tallC n ++ [(1, (n : Int))] := by simp [tallC, List.range_succ]
theorem tall_res (n : Nat) (h1 : 1 ≤ n) (h2 : n ≤ 100) : oneL (tallC n ++ [(18, 0)]) = if 32 < n then (0, 32, 12) else (0, 0, 0) := by
  have : ∀ m : Fin 101, 1 ≤ m.1 → oneL (tallC m.1 ++ [(18, 0)]) = if 32 < m.1 then (0, 32, 12) else (0, 0, 0) := by decide +kernel
  exact this ⟨n, by omega⟩ h1

set_option maxRecDepth 100000 in
set_option maxHeartbeats 2000000 in
theorem tall_any (n : Int) (w : World) (hE : Env w) : Calls Tryd.prog 6 #[.int .i64 n] w fun r w' => r = .returned (.bool true) ∧ Below w.heap.size w w' := by
  have CA := alive_any w hE
  by_cases h1 : n < 1
  · go_enter Tryd.func6, Tryd.ntmps6
    go_wp2_with (go_at_call 9; go_must (with_reducible refine CA.mono ?_; (rintro e w1 ⟨rfl, hb1⟩)))
    go_ret
    exact ⟨rfl, hb1⟩
  by_cases h2 : 100 < n
  · go_enter Tryd.func6, Tryd.ntmps6
    go_wp2_with (go_at_call 9; go_must (with_reducible refine CA.mono ?_; (rintro e w1 ⟨rfl, hb1⟩)))
    go_ret
    exact ⟨rfl, hb1⟩
  obtain ⟨m, rfl⟩ : ∃ m : Nat, n = (m : Int) := ⟨n.toNat, by omega⟩
  have hm1 : 1 ≤ m := by omega
  have hm2 : m ≤ 100 := by omega
  have HT := hide (tall_res m hm1 hm2)
  obtain ⟨i0, hi, hz0, hz1, hz2⟩ := info_parts Tryd.info39
  go_enter Tryd.func6, Tryd.ntmps6
  go_wp2_with (go_at_call 9; go_must (with_reducible refine CA.mono ?_; (rintro e w1 ⟨rfl, hb1⟩)))
  clear CA
  go_loopw [4, 5] (fun l i wr => Hid (Below w.heap.size w wr) ∧ ∃ k : Nat, k ≤ m ∧ i = .int .i64 (k : Nat) ∧ wr.ownsRow w.heap.size 39 2 l k (insV (tallC k))) (fun _ i _ => m - (intOf i).toNat)
  case atStart => exact ⟨hb1, 0, Nat.zero_le _, rfl, by simpa [tallC, insV] using World.ownsRow_nil w1 _ 39 2⟩
  case round =>
    obtain ⟨hbw, k, hk, rfl, ho⟩ := hrel
    have hsz := hbw.out.size
    by_cases hlt : k < m
    · have hlt' : (k : Int) < (m : Int) := by omega
      go_wp2_with (at_builtin; go_must (refine wpList_append_own _ rfl (.tmp 26) (.tmp 29) 41 rfl w.heap.size 39 i0 (.agg #[.int .i64 0, .int .i64 0]) 2 16 Tryd.underlying41 hi hz0 hz1 hz2 rfl (by decide) u4 k _ rfl (ho.alloc _) ⟨wr.heap.size, 0, none⟩ 1 1 [.int .i64 1, .int .i64 (k : Int)] rfl rfl (cells_new wr _ 39) (by simp [Value.oneCell']) (by unfold maxLen; omega) (by omega) (by simp; omega) ?_; intro v2 w2 ho2 hg2 hnn; clear hnn))
      have HB2 := hide ((hbw.out.alloc (by omega) _).grown hg2 (by simp; omega) (fun q hq => (ho.lt q hq).1))
      go_roundw
      case rel => exact ⟨HB2, k + 1, by omega, by go_num, by rw [tallC_succ, insV_app]; exact ho2⟩
      case measure => simp [intOf]; omega
    · have hkm : k = m := by omega
      subst hkm
      go_wp2_with (first
        | (at_builtin; go_must (refine wpList_append_own _ rfl (.tmp 31) (.tmp 33) 41 rfl w.heap.size 39 i0 (.agg #[.int .i64 0, .int .i64 0]) 2 16 Tryd.underlying41 hi hz0 hz1 hz2 rfl (by decide) u4 k _ rfl (ho.alloc _) ⟨wr.heap.size, 0, none⟩ 1 1 [.int .i64 18, .int .i64 0] rfl rfl (cells_new wr _ 39) (by simp [Value.oneCell']) (by unfold maxLen; omega) (by omega) (by simp; omega) ?_; intro v2 w2 ho2 hg2 hnn; clear hnn))
        | (go_at_call 17; refine Hid.out ?_))
      refine Lib.hid ?_
      have hb2 := ((hbw.out.alloc (by omega) _).grown hg2 (by simp; omega) (fun q hq => (ho.lt q hq).1))
      have ho3 : w2.ownsRow w.heap.size 39 2 v2 (k + 1) (insV (tallC k ++ [(18, 0)])) := by rw [insV_app]; exact ho2
      obtain ⟨a, cap, rfl, hr⟩ := own_code ho3
      have C1 := one_any a (k + 1) cap w2
      unfold OnePost at C1
      refine C1.mono ?_
      rintro e w3 ⟨h3, rfl, hrow3, hb3⟩
      have hb03 := chain hb2 hb3
      have C2 := one_check (tallC k ++ [(18, 0)]) hrow3 (by simp [tallC]) (hr.below hb3) (hE.below hb03) (by omega)
      rw [HT.out] at C2
      unfold CheckPost at C2
      simp only [oneJ, JV.cells] at C2 ⊢
      have NM := fun e w => num_any e w
      clear C1 hrow3 hr ho3 ho2 hg2 ho hb2 hb3
      by_cases h32 : 32 < k
      · rw [if_pos h32] at C2
        have h32' : (32 : Int) < (k : Int) := by omega
        go_wp2_with (first
          | (go_at_call 11; go_must (with_reducible refine C2.mono ?_; (rintro e w6 ⟨rfl, hb6⟩)))
          | (go_at_call 13; go_must (with_reducible refine (NM _ _).mono ?_; (rintro e w7 ⟨rfl, hw7⟩); replace hw7 := hw7.symm; subst hw7)))
        go_ret
        exact ⟨rfl, chain hb03 hb6⟩
      · rw [if_neg h32] at C2
        have h32' : ¬ (32 : Int) < (k : Int) := by omega
        go_wp2_with (first
          | (go_at_call 11; go_must (with_reducible refine C2.mono ?_; (rintro e w6 ⟨rfl, hb6⟩)))
          | (go_at_call 13; go_must (with_reducible refine (NM _ _).mono ?_; (rintro e w7 ⟨rfl, hw7⟩); replace hw7 := hw7.symm; subst hw7)))
        go_ret
        exact ⟨rfl, chain hb03 hb6⟩
end Go.Proofs.YtfdgkeljnmamiaaDoor
