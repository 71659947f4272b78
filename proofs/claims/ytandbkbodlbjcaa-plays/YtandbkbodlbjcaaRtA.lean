/- The document's own table: Len, End, Back, Park. -/
import Derived.Test.YtandbkbodlbjcaaRtm
namespace Go.Proofs.Ytandbkbodlbjcaa
open Go.RowKit Go.ChangeShapes Go.WideShapes Go.ChangeAt Go.Deep Go.Maps Go.Sort

def Rt.all (U : Rt) : Nat := U.rdy.length + U.goi.length + U.prk.length
theorem own_P {w : World} {B T z n : Nat} {v : Value} {xs : List Value} (h : w.ownsRow B T z v n xs) : ∃ a c, v = .slice a n c := by
  rcases h.2 with ⟨rfl, rfl⟩ | ⟨g, cap, cur, rfl, _⟩
  · exact ⟨_, _, rfl⟩
  · exact ⟨_, _, rfl⟩

set_option maxRecDepth 100000 in
theorem rlen_any {κ : Cl} {w : World} {cb : Nat} {U : Rt} (h : RtM κ w cb U) (h1 : U.rdy.length ≤ 1000) (h2 : U.goi.length ≤ 1000) (h3 : U.prk.length ≤ 1000) : Calls Try.prog 32 #[.pointer (some ⟨cb, 0, none⟩)] w fun e w' => e = .returned (.int .i64 (U.all : Nat)) ∧ ∃ q, w' = w.drewN q := by
  obtain ⟨vr, vg, vp, h⟩ := h
  obtain ⟨a1, k1, rfl, _⟩ := own_formN h.r
  obtain ⟨a2, k2, rfl, _⟩ := own_formN h.g
  obtain ⟨a3, k3, rfl⟩ := own_P h.p
  obtain ⟨c1, _⟩ := h.box.at (o := 1) rfl
  obtain ⟨c2, _⟩ := h.box.at (o := 2) rfl
  obtain ⟨c3, _⟩ := h.box.at (o := 3) rfl
  have HU := hide (show U.all = U.rdy.length + U.goi.length + U.prk.length from rfl)
  generalize U.rdy.length = n1 at *
  generalize U.goi.length = n2 at *
  generalize U.prk.length = n3 at *
  clear h
  go_enter Try.func32, Try.ntmps32
  go_upto_region 1 with fail
  go_big_quiet (fail)
  go_wp2
  go_ret
  refine ⟨?_, _, rfl⟩
  rw [HU.out]
  first | rfl | (simp; done) | (congr 1)

theorem reads_newN (w : World) (xs : List Value) (t : TypeId) {n : Nat} (hn : w.heap.size = n) : Reads (w.alloc (.cells xs.toArray t)) (some ⟨n, 0, none⟩) xs := by
  subst hn; exact reads_new w xs t
def rendU (U : Rt) (x : ByteArray) : Rt := { U with goi := del U.goi x }
def RPost (κ : Cl) (w : World) (cb : Nat) (U' : Rt) (b : Bool) (e : Ending) (w' : World) : Prop := e = .returned (.bool b) ∧ ∃ κ', RtM κ' w' cb U' ∧ Stp κ κ' w w'

set_option maxRecDepth 100000 in
set_option maxHeartbeats 1000000 in
theorem rend_any {κ : Cl} {w : World} {cb : Nat} {U : Rt} (h : RtM κ w cb U) (x : ByteArray) (h2 : U.goi.length ≤ 1000) : Calls Try.prog 26 #[.pointer (some ⟨cb, 0, none⟩), .string x] w (RPost κ w cb (rendU U x) (inB U.goi x)) := by
  obtain ⟨vr, vg, vp, h⟩ := h
  have HT := hide h
  obtain ⟨a2, k2, rfl, _, _, hr⟩ := own_formN h.g
  obtain ⟨c2, f2⟩ := h.box.at (o := 2) rfl
  have C39 := hide (rhas_any U.goi x a2 k2 w hr (by omega))
  have C44 := hide (without_any U.goi x a2 k2 w hr h2)
  obtain ⟨n2, hn⟩ : ∃ n, n = U.goi.length := ⟨_, rfl⟩
  rw [← hn] at c2 C39 C44
  have HN := hide hn
  clear h hr hn h2
  go_enter Try.func26, Try.ntmps26
  go_wp2_with (first
    | (go_at_call 39; go_must ((with_reducible refine C39.out.mono ?_); rintro e w1 ⟨rfl, rfl⟩))
    | (go_at_call 44; go_must ((with_reducible refine C44.out.mono ?_); rintro e w1 ⟨v1, rfl, ho1, hb1⟩; obtain ⟨a8, k8, rfl⟩ := own_P ho1; obtain ⟨c3, f3⟩ := (HT.out.box.below hb1).at (o := 2) rfl; have HO := hide ho1; have HB := hide hb1; clear ho1 hb1)))
  go_ret
  have := HT.out.setG (del U.goi x) (own_base HO.out (Nat.zero_le _)) (Kp.ofB HB.out) (fun b hb => .inr (HO.out.lt b hb).1)
  exact ⟨rfl, _, ⟨_, _, _, this.1⟩, this.2⟩

def rbackU (U : Rt) (x : ByteArray) : Rt := if inB U.goi x = true then { U with goi := del U.goi x, rdy := U.rdy ++ [x] } else U
set_option maxRecDepth 100000 in
set_option maxHeartbeats 1000000 in
theorem rback_any {κ : Cl} {w : World} {cb : Nat} {U : Rt} (h : RtM κ w cb U) (x : ByteArray) (h1 : U.rdy.length ≤ 1000) (h2 : U.goi.length ≤ 1000) : Calls Try.prog 16 #[.pointer (some ⟨cb, 0, none⟩), .string x] w (RPost κ w cb (rbackU U x) (inB U.goi x)) := by
  obtain ⟨vr, vg, vp, h⟩ := h
  have HT := hide h
  obtain ⟨a2, k2, rfl, _, _, hr⟩ := own_formN h.g
  obtain ⟨c2, f2⟩ := h.box.at (o := 2) rfl
  obtain ⟨c1, f1⟩ := h.box.at (o := 1) rfl
  have C39 := hide (rhas_any U.goi x a2 k2 w hr (by omega))
  have C44 := hide (without_any U.goi x a2 k2 w hr h2)
  obtain ⟨n2, hn⟩ : ∃ n, n = U.goi.length := ⟨_, rfl⟩
  rw [← hn] at c2 C39 C44
  have HN := hide hn
  clear h hr hn h2
  unfold rbackU
  by_cases hi : inB U.goi x = true
  · rw [if_pos hi]
    rw [hi] at C39 ⊢
    go_enter Try.func16, Try.ntmps16
    go_wp2_with (first
      | (go_at_call 39; go_must ((with_reducible refine C39.out.mono ?_); rintro e w1 ⟨rfl, rfl⟩))
      | (go_at_call 44; go_must ((with_reducible refine C44.out.mono ?_); rintro e w1 ⟨v1, rfl, ho1, hb1⟩; obtain ⟨a8, k8, rfl⟩ := own_P ho1; obtain ⟨c3, f3⟩ := (HT.out.box.below hb1).at (o := 2) rfl; obtain ⟨c4, f4⟩ := (HT.out.box.below hb1).at (o := 1) rfl; have HO := hide (HT.out.setG (del U.goi x) (own_base ho1 (Nat.zero_le _)) (Kp.ofB hb1) (fun b hb => .inr (ho1.lt b hb).1)); clear ho1 hb1))
      | (at_builtin; go_must (refine app_own rfl (.tmp 25) (.tmp 27) rfl vr U.rdy.length U.rdy rfl (HO.out.1.r.alloc _) (by omega) _ x rfl (reads_newN _ [.string x] 31 (by simp [World.setCell])) ?_; intro v5 w5 ho5 hg5 hat5; obtain ⟨a9, k9, rfl⟩ := own_P ho5; obtain ⟨c6, f6⟩ := ((HO.out.1.box.below (below_new _ (.cells #[.string x] 31))).keep hg5.size (hg5.block cb (by have := HO.out.1.box.1; simp at this ⊢; omega) (fun e => by have := HO.out.1.rc cb e.symm; rw [HO.out.1.hc] at this; cases this))).at (o := 1) rfl; have HO5 := hide ho5; have HG5 := hide hg5; have HA5 := hide hat5; clear ho5 hg5 hat5)))
    go_ret
    have := HO.out.1.setR (U.rdy ++ [x]) (by simpa using HO5.out) (Kp.trans (Kp.ofB (below_new _ (.cells #[.string x] 31))) (Kp.ofG HG5.out (fun k e => e))) (fun b hb => by
      rcases HA5.out b hb with e | e
      · exact .inl e
      · right; rw [e]; simp)
    exact ⟨rfl, _, ⟨_, _, _, this.1⟩, HO.out.2.trans this.2⟩
  · have hi' : inB U.goi x = false := by simpa using hi
    rw [if_neg hi]
    rw [hi'] at C39 ⊢
    go_enter Try.func16, Try.ntmps16
    go_wp2_with (go_at_call 39; go_must ((with_reducible refine C39.out.mono ?_); rintro e w1 ⟨rfl, rfl⟩))
    go_ret
    exact ⟨rfl, κ, ⟨_, _, _, HT.out⟩, Stp.refl _ _⟩
end Go.Proofs.Ytandbkbodlbjcaa
