/- The document's own table: Park, Next, Steal. -/
import Derived.Test.YtandbkbodlbjcaaRtA
namespace Go.Proofs.Ytandbkbodlbjcaa
open Go.RowKit Go.ChangeShapes Go.WideShapes Go.ChangeAt Go.Deep Go.Maps Go.Sort

def rparkB (U : Rt) (x on : ByteArray) : Bool := validL on.data.toList && inB U.goi x
def rparkU (U : Rt) (x on : ByteArray) : Rt := if rparkB U x on = true then { U with goi := del U.goi x, prk := U.prk ++ [(x, on)] } else U
set_option maxRecDepth 100000 in
set_option maxHeartbeats 1000000 in
theorem rpark_any {κ : Cl} {w : World} {cb : Nat} {U : Rt} (h : RtM κ w cb U) (x on : ByteArray) (hon : on.size ≤ 1000000) (h2 : U.goi.length ≤ 1000) (h3 : U.prk.length ≤ 1000) : Calls Try.prog 18 #[.pointer (some ⟨cb, 0, none⟩), .string x, .string on] w (RPost κ w cb (rparkU U x on) (rparkB U x on)) := by
  obtain ⟨vr, vg, vp, h⟩ := h
  obtain ⟨a2, k2, rfl, _, _, hr⟩ := own_formN h.g
  obtain ⟨a3, k3, rfl⟩ := own_P h.p
  have HT := hide h
  obtain ⟨c2, f2⟩ := h.box.at (o := 2) rfl
  have C38 := hide (fun w => refValid_any on (by unfold maxLen; omega) w)
  have C39 := hide (rhas_any U.goi x a2 k2 w hr (by omega))
  have C44 := hide (without_any U.goi x a2 k2 w hr h2)
  obtain ⟨n2, hn⟩ : ∃ n, n = U.goi.length := ⟨_, rfl⟩
  rw [← hn] at c2 C39 C44
  have HN := hide hn
  clear h hr hn h2
  unfold rparkU rparkB
  by_cases hv : validL on.data.toList = true
  · rw [hv] at C38
    by_cases hi : inB U.goi x = true
    · rw [hv, hi] 
      rw [hi] at C39
      go_enter Try.func18, Try.ntmps18
      go_wp2_with (first
        | (go_at_call 38; go_must ((with_reducible refine (C38.out _).mono ?_); rintro e w1 ⟨rfl, rfl⟩))
        | (go_at_call 39; go_must ((with_reducible refine C39.out.mono ?_); rintro e w1 ⟨rfl, rfl⟩))
        | (go_at_call 44; go_must ((with_reducible refine C44.out.mono ?_); rintro e w1 ⟨v1, rfl, ho1, hb1⟩; obtain ⟨a8, k8, rfl⟩ := own_P ho1; obtain ⟨c3, f3⟩ := (HT.out.box.below hb1).at (o := 2) rfl; obtain ⟨c4, f4⟩ := (HT.out.box.below hb1).at (o := 3) rfl; have HO := hide (HT.out.setG (del U.goi x) (own_base ho1 (Nat.zero_le _)) (Kp.ofB hb1) (fun b hb => .inr (ho1.lt b hb).1)); clear ho1 hb1))
        | (at_builtin; go_must (refine app_pair rfl (.tmp 34) (.tmp 38) rfl 0 (.slice a3 U.prk.length k3) U.prk.length U.prk rfl (HO.out.1.p.alloc _) (by omega) (Nat.zero_le _) _ (x, on) rfl (reads_newN _ [.string x, .string on] 73 (by simp [World.setCell])) ?_; intro v5 w5 ho5 hg5 hat5; obtain ⟨a9, k9, rfl⟩ := own_P ho5; obtain ⟨c6, f6⟩ := ((HO.out.1.box.below (below_new _ (.cells #[.string x, .string on] 73))).keep hg5.size (hg5.block cb (by have := HO.out.1.box.1; simp at this ⊢; omega) (fun e => by have := HO.out.1.pc cb e.symm; rw [HO.out.1.hc] at this; cases this))).at (o := 3) rfl; have HO5 := hide ho5; have HG5 := hide hg5; have HA5 := hide hat5; clear ho5 hg5 hat5)))
      go_ret
      have := HO.out.1.setP (U.prk ++ [(x, on)]) (by simpa using HO5.out) (Kp.trans (Kp.ofB (below_new _ (.cells #[.string x, .string on] 73))) (Kp.ofG HG5.out (fun k e => e))) (fun b hb => by
        rcases HA5.out b hb with e | e
        · exact .inl e
        · right; rw [e]; simp)
      exact ⟨rfl, _, ⟨_, _, _, this.1⟩, HO.out.2.trans this.2⟩
    · have hi' : inB U.goi x = false := by simpa using hi
      rw [hv, hi']
      rw [hi'] at C39
      go_enter Try.func18, Try.ntmps18
      go_wp2_with (first
        | (go_at_call 38; go_must ((with_reducible refine (C38.out _).mono ?_); rintro e w1 ⟨rfl, rfl⟩))
        | (go_at_call 39; go_must ((with_reducible refine C39.out.mono ?_); rintro e w1 ⟨rfl, rfl⟩)))
      go_ret
      exact ⟨rfl, κ, ⟨_, _, _, HT.out⟩, Stp.refl _ _⟩
  · have hv' : validL on.data.toList = false := by simpa using hv
    rw [hv'] at C38 ⊢
    go_enter Try.func18, Try.ntmps18
    go_wp2_with (go_at_call 38; go_must ((with_reducible refine (C38.out _).mono ?_); rintro e w1 ⟨rfl, rfl⟩))
    go_ret
    exact ⟨rfl, κ, ⟨_, _, _, HT.out⟩, Stp.refl _ _⟩

theorem own_reads {w : World} {B c : Nat} {a : Option Addr} {L : List ByteArray} (h : w.ownsRow B 31 1 (.slice a L.length c) L.length (nV L)) : Reads w a (nV L) := by
  obtain ⟨a', c', e, _, _, hr⟩ := own_formN h
  cases e
  exact hr
def RTwo (κ : Cl) (w : World) (cb : Nat) (U' : Rt) (x : ByteArray) (e : Ending) (w' : World) : Prop := e = .returned (.tuple #[.string x, .bool true]) ∧ ∃ κ', RtM κ' w' cb U' ∧ Stp κ κ' w w'
set_option maxRecDepth 100000 in
theorem rsteal_none {κ : Cl} {w : World} {cb : Nat} {U : Rt} (h : RtM κ w cb U) (h1 : U.rdy = []) : Calls Try.prog 24 #[.pointer (some ⟨cb, 0, none⟩)] w fun e w' => e = .returned (.tuple #[.string ⟨#[]⟩, .bool false]) ∧ w' = w := by
  obtain ⟨vr, vg, vp, h⟩ := h
  obtain ⟨a1, k1, rfl, _, _, hr⟩ := own_formN h.r
  obtain ⟨c1, f1⟩ := h.box.at (o := 1) rfl
  rw [h1] at c1
  clear h hr
  go_enter Try.func24, Try.ntmps24
  go_wp2
  go_ret2
  exact ⟨rfl, rfl⟩
set_option maxRecDepth 100000 in
theorem rnext_none {κ : Cl} {w : World} {cb : Nat} {U : Rt} (h : RtM κ w cb U) (h1 : U.rdy = []) : Calls Try.prog 14 #[.pointer (some ⟨cb, 0, none⟩)] w fun e w' => e = .returned (.tuple #[.string ⟨#[]⟩, .bool false]) ∧ w' = w := by
  obtain ⟨vr, vg, vp, h⟩ := h
  obtain ⟨a1, k1, rfl, _, _, hr⟩ := own_formN h.r
  obtain ⟨c1, f1⟩ := h.box.at (o := 1) rfl
  rw [h1] at c1
  clear h hr
  go_enter Try.func14, Try.ntmps14
  go_wp2
  go_ret2
  exact ⟨rfl, rfl⟩

set_option maxRecDepth 100000 in
set_option maxHeartbeats 1000000 in
theorem rsteal_some {κ : Cl} {w : World} {cb : Nat} {U : Rt} {x : ByteArray} {L : List ByteArray} (h : RtM κ w cb U) (h1 : U.rdy = x :: L) (h2 : U.rdy.length ≤ 1000) : Calls Try.prog 24 #[.pointer (some ⟨cb, 0, none⟩)] w (RTwo κ w cb { U with rdy := L } x) := by
  obtain ⟨vr, vg, vp, h⟩ := h
  have HT := hide h
  obtain ⟨a1, k1, rfl, q1, q2, hr⟩ := own_formN h.r
  obtain ⟨c1, f1⟩ := h.box.at (o := 1) rfl
  obtain ⟨b, off, rfl, hc⟩ := reads_nV (k := 0) (x := x) hr (by rw [h1]; rfl)
  have c0 := hc.out 0 x (by rw [h1]; rfl)
  rw [Nat.add_zero] at c0
  obtain ⟨n1, hn⟩ : ∃ n, n = U.rdy.length := ⟨_, rfl⟩
  have hL : n1 - 1 = L.length := by rw [hn, h1]; simp
  have hbd : n1 ≤ 1000 := by rw [hn]; exact h2
  have hn1 : 1 ≤ n1 := by rw [hn, h1]; simp
  obtain ⟨a5, k5, ks, hn5, hr5⟩ := slice_from (k := 1) hr (by omega) q1 q2
  rw [h1] at hr5
  rw [← hn] at c1 ks hn5 q1
  have HR5 := hide (show Reads w a5 (nV L) by simpa using hr5)
  have HL := hide hL
  have HN := hide hn
  have hz : ((n1 : Int) == 0) = false := by simp; omega
  have hp : (0 : Int) < (n1 : Int) := by omega
  have ks1 : ∀ w, (Instr.slice 27 (.slice (some ⟨b, off, none⟩) n1 k1) (some (.int .i64 1)) none none).run Try.prog w = .ok (.slice a5 (n1 - 1) k5) w := ks
  clear h hr hr5 hL hc h1 q2 hn ks
  go_enter Try.func24, Try.ntmps24
  go_wp2_with (at_builtin; go_must (refine append_names rfl (.const (.slice none 0 0)) (.tmp 22) rfl w.heap.size (.slice none 0 0) 0 [] rfl (by simpa [nV] using World.ownsRow_nil w _ 31 1) a5 (n1 - 1) k5 L rfl hn5 HL.out.symm HR5.out (by omega) (Nat.le_refl _) ?_; intro v1 w1 ho1 hg1; have ho2 : w1.ownsRow w.heap.size 31 1 v1 (n1 - 1) (nV L) := (by simpa using ho1); obtain ⟨a8, k8, rfl⟩ := own_P ho2; obtain ⟨c3, f3⟩ := (HT.out.box.below (below_of hg1)).at (o := 1) rfl; have HO := hide ho2; have HB := hide (below_of hg1); clear ho1 hg1 ho2))
  go_ret2
  have := HT.out.setR (v' := .slice a8 (n1 - 1) k8) L (by rw [← HL.out]; exact own_base HO.out (Nat.zero_le _)) (Kp.ofB HB.out) (fun b hb => .inr (HO.out.lt b hb).1)
  exact ⟨rfl, _, ⟨_, _, _, this.1⟩, this.2⟩

set_option maxRecDepth 100000 in
set_option maxHeartbeats 2000000 in
theorem rnext_some {κ : Cl} {w : World} {cb : Nat} {U : Rt} {x : ByteArray} {L : List ByteArray} (h : RtM κ w cb U) (h1 : U.rdy = L ++ [x]) (h2 : U.rdy.length ≤ 1000) (h3 : U.goi.length ≤ 1000) (hx : x ∉ U.goi) : Calls Try.prog 14 #[.pointer (some ⟨cb, 0, none⟩)] w (RTwo κ w cb { U with rdy := L, goi := putB U.goi x } x) := by
  obtain ⟨vr, vg, vp, h⟩ := h
  obtain ⟨a1, k1, rfl, q1, q2, hr⟩ := own_formN h.r
  obtain ⟨a2, k2, rfl, q3, q4, hg⟩ := own_formN h.g
  have HT := hide h
  obtain ⟨c1, f1⟩ := h.box.at (o := 1) rfl
  obtain ⟨m, hm⟩ : ∃ m, m = L.length := ⟨_, rfl⟩
  have hlen : U.rdy.length = m + 1 := by rw [h1, hm]; simp
  obtain ⟨b, off, rfl, hc⟩ := reads_nV (k := m) (x := x) hr (by rw [h1, hm]; simp)
  have c0 := hc.out m x (by rw [h1, hm]; simp)
  obtain ⟨a5, k5, ks, hn5, hr5⟩ := slice_to (k := m) hr (by omega) q1 q2
  have HR5 := hide (show Reads w a5 (nV L) by
    have e : U.rdy.take m = L := by rw [h1, hm]; simp
    rw [e] at hr5; exact hr5)
  obtain ⟨n1, hn⟩ : ∃ n, n = U.rdy.length := ⟨_, rfl⟩
  obtain ⟨n2, hn2⟩ : ∃ n, n = U.goi.length := ⟨_, rfl⟩
  rw [← hn] at c1 ks q1
  have hn1 : n1 = m + 1 := by rw [hn]; exact hlen
  have hbd : n1 ≤ 1000 := by rw [hn]; exact h2
  have hz : ((n1 : Int) == 0) = false := by simp; omega
  have hq1 : (n1 : Int) - 1 = (m : Int) := by omega
  have hq3 : ¬ (m : Int) < 0 := by omega
  have hq4 : (m : Int) < (n1 : Int) := by omega
  have HN := hide hn1
  have HM := hide hm
  have H3 := hide h3
  have HX := hide hx
  clear h hr hr5 hc h1 q2 hn hn1 hm hg hlen h2 h3 hx
  go_enter Try.func14, Try.ntmps14
  go_upto_region 6 with (at_builtin; go_must (refine append_names rfl (.const (.slice none 0 0)) (.tmp 28) rfl w.heap.size (.slice none 0 0) 0 [] rfl (by simpa [nV] using World.ownsRow_nil w _ 31 1) a5 m k5 L rfl hn5 HM.out.symm HR5.out (by omega) (Nat.le_refl _) ?_; intro v1 w1 ho1 hg1; have ho2 : w1.ownsRow w.heap.size 31 1 v1 m (nV L) := (by simpa using ho1); obtain ⟨a8, k8, rfl⟩ := own_P ho2; obtain ⟨c3, f3⟩ := (HT.out.box.below (below_of hg1)).at (o := 1) rfl; have HO := hide ho2; have HB := hide (below_of hg1); clear ho1 hg1 ho2))
  have HS := hide (HT.out.setR (v' := .slice a8 m k8) L (by rw [← HM.out]; exact own_base HO.out (Nat.zero_le _)) (Kp.ofB HB.out) (fun b hb => .inr (HO.out.lt b hb).1))
  obtain ⟨W, hW⟩ : ∃ W, W = w1.setCell ⟨cb, 1, none⟩ (.slice a8 m k8) := ⟨_, rfl⟩
  rw [← hW] at HS ⊢
  have C42 := hide (put_new U.goi x a2 k2 W (own_reads HS.out.1.g) q3 q4 H3.out HX.out)
  obtain ⟨c5, f5⟩ := HS.out.1.box.at (o := 2) rfl
  clear c3 f3 c0 c1 f1 hW
  go_wp2_with (go_at_call 42; go_must ((with_reducible refine C42.out.mono ?_); rintro e w4 ⟨v4, rfl, ho4, hb4⟩; obtain ⟨a9, k9, rfl⟩ := own_P ho4; obtain ⟨c6, f6⟩ := (HS.out.1.box.below hb4).at (o := 2) rfl; have HO4 := hide ho4; have HB4 := hide hb4; clear ho4 hb4))
  go_ret2
  have := HS.out.1.setG (putB U.goi x) (own_base HO4.out (Nat.zero_le _)) (Kp.ofB HB4.out) (fun b hb => .inr (HO4.out.lt b hb).1)
  exact ⟨rfl, _, ⟨_, _, _, this.1⟩, HS.out.2.trans this.2⟩
end Go.Proofs.Ytandbkbodlbjcaa
