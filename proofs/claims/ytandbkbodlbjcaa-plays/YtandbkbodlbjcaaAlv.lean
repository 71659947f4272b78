/- alive; num. -/
import Derived.Test.YtandbkbodlbjcaaMt2
namespace Go.Proofs.Ytandbkbodlbjcaa
open Go.RowKit Go.ChangeShapes Go.WideShapes Go.ChangeAt Go.Deep Go.Maps Go.Sort

theorem add_at {κ : Cl} {w : World} {cb : Nat} {T T' : Tb} {x : ByteArray} {n : Int} (h : TabM κ w cb T) (he : addT T x = (n, T')) (hx : x.size ≤ 1000000) (hl : T.al.length ≤ 100000) (hl2 : T.rdy.length ≤ 100000) :
    Calls Try.prog 11 #[.pointer (some ⟨cb, 0, none⟩), .string x] w fun e w' => e = .returned (.int .i64 n) ∧ ∃ κ', TabM κ' w' cb T' ∧ Stp κ κ' w w' :=
  (add_any h x hx hl hl2).mono (by
    rintro e w' ⟨rfl, κ', h1, h2⟩
    rw [he] at h1 ⊢
    exact ⟨rfl, κ', h1, h2⟩)
theorem next_some {κ : Cl} {w : World} {cb : Nat} {T : Tb} (h : TabM κ w cb T) (hl : T.rdy.length ≤ 100000) (hg : T.goi.length ≤ 100000) (hn : ∀ x ∈ T.rdy, x ∉ T.goi) {L : List ByteArray} {x : ByteArray} (hr : T.rdy = L ++ [x]) :
    Calls Try.prog 13 #[.pointer (some ⟨cb, 0, none⟩)] w fun e w' => e = .returned (.tuple #[.string x, .bool true]) ∧ x.size ≤ 12 ∧ ∃ κ', TabM κ' w' cb { T with rdy := L, goi := x :: T.goi } ∧ Stp κ κ' w w' :=
  (next_any h hl hg hn).mono (by
    rintro e w' (⟨e1, _⟩ | ⟨L', x', e1, h2, h3, h4⟩)
    · rw [hr] at e1; simp at e1
    · rw [hr] at e1
      obtain ⟨rfl, e2⟩ := List.append_inj' e1 rfl
      simp only [List.cons.injEq, and_true] at e2
      subst e2
      exact ⟨h3, h2, h4⟩)
theorem next_none {κ : Cl} {w : World} {cb : Nat} {T : Tb} (h : TabM κ w cb T) (hl : T.rdy.length ≤ 100000) (hg : T.goi.length ≤ 100000) (hn : ∀ x ∈ T.rdy, x ∉ T.goi) (hr : T.rdy = []) :
    Calls Try.prog 13 #[.pointer (some ⟨cb, 0, none⟩)] w fun e w' => e = .returned (.tuple #[.string ⟨#[]⟩, .bool false]) ∧ w' = w :=
  (next_any h hl hg hn).mono (by
    rintro e w' (⟨e1, h2, h3⟩ | ⟨L', x', e1, _⟩)
    · exact ⟨h2, h3⟩
    · rw [hr] at e1; simp at e1)
theorem steal_some {κ : Cl} {w : World} {cb : Nat} {T : Tb} (h : TabM κ w cb T) (hl : T.rdy.length ≤ 100000) {L : List ByteArray} {x : ByteArray} (hr : T.rdy = x :: L) :
    Calls Try.prog 23 #[.pointer (some ⟨cb, 0, none⟩)] w fun e w' => e = .returned (.tuple #[.string x, .bool true]) ∧ x.size ≤ 12 ∧ TabM κ w' cb { T with rdy := L, al := del T.al x } ∧ Stp κ κ w w' :=
  (steal_any h hl).mono (by
    rintro e w' (⟨e1, _⟩ | ⟨L', x', e1, h2, h3, h4⟩)
    · rw [hr] at e1; simp at e1
    · rw [hr] at e1
      simp only [List.cons.injEq] at e1
      obtain ⟨rfl, rfl⟩ := e1
      exact ⟨h3, h2, h4⟩)
theorem steal_none {κ : Cl} {w : World} {cb : Nat} {T : Tb} (h : TabM κ w cb T) (hl : T.rdy.length ≤ 100000) (hr : T.rdy = []) :
    Calls Try.prog 23 #[.pointer (some ⟨cb, 0, none⟩)] w fun e w' => e = .returned (.tuple #[.string ⟨#[]⟩, .bool false]) ∧ w' = w :=
  (steal_any h hl).mono (by
    rintro e w' (⟨e1, h2, h3⟩ | ⟨L', x', e1, _⟩)
    · exact ⟨h2, h3⟩
    · rw [hr] at e1; simp at e1)

theorem add1 : addT (Tb.new 5) ⟨#[1]⟩ = (0, ⟨[⟨#[1]⟩], [], [], [⟨#[1]⟩], 5, 0⟩) := by kernel_rfl
theorem add2 : addT ⟨[⟨#[1]⟩], [], [], [⟨#[1]⟩], 5, 0⟩ ⟨#[2]⟩ = (0, ⟨[⟨#[1]⟩, ⟨#[2]⟩], [], [], [⟨#[2]⟩, ⟨#[1]⟩], 5, 0⟩) := by kernel_rfl
theorem del1 : (del [⟨#[2]⟩, ⟨#[1]⟩] ⟨#[1]⟩ : List ByteArray) = [⟨#[2]⟩] := by kernel_rfl

theorem num_any (n : Int) (w : World) : Calls Try.prog 10 #[.int .i64 n] w fun e w' => e = .returned (.int .i64 n) ∧ w' = w := by
  go_enter Try.func10, Try.ntmps10
  go_wp2
  go_ret
  exact ⟨rfl, rfl⟩

theorem stp_below {κ κ' : Cl} {B : Nat} {w0 w w' : World} (h : Stp κ κ' w w') (hb : Below B w0 w) (hB : B ≤ w0.heap.size) (hκ : ∀ k, κ k ≠ none → B ≤ k) : Below B w0 w' :=
  h.kp.below hb hB (fun k hk e => by have := hκ k e; omega)

set_option maxRecDepth 100000 in
set_option maxHeartbeats 2000000 in
theorem alive_any (w : World) : Calls Try.prog 7 #[] w fun e w' => e = .returned (.bool true) ∧ Below w.heap.size w w' := by
  have C8 := hide (new_any 5 w)
  have hk0 : ∀ k, paint (fun _ => none) w.heap.size .box k ≠ none → w.heap.size ≤ k := fun k hk => by
    by_cases e : k = w.heap.size
    · omega
    · rw [paint_other e] at hk; exact absurd rfl hk
  have HK := hide hk0
  clear hk0
  generalize paint (fun _ => none) w.heap.size .box = κ0 at *
  generalize hcb : w.heap.size = cb at *
  have q1 : ((⟨#[1]⟩ : ByteArray).toList == (⟨#[1]⟩ : ByteArray).toList) = true := by simp
  have q2 : ((⟨#[2]⟩ : ByteArray).toList == (⟨#[2]⟩ : ByteArray).toList) = true := by simp
  go_enter Try.func7, Try.ntmps7
  go_wp2_with (first
    | (go_at_call 8; go_must ((with_reducible refine C8.out.mono ?_); rintro e w1 ⟨rfl, hT1, hb1⟩; have HT1 := hide hT1; have HB1 := hide hb1; have C11 := hide (add_at HT1.out add1 (by decide) (by decide) (by decide)); clear hT1 hb1))
    | (go_at_call 11; ((with_reducible refine C11.out.mono ?_); rintro e w2 ⟨rfl, κ2, hT2, hS2⟩; have HT2 := hide hT2; have HS2 := hide hS2; have C11' := hide (add_at HT2.out add2 (by decide) (by decide) (by decide)); clear hT2 hS2 C11))
    | (go_at_call 11; ((with_reducible refine C11'.out.mono ?_); rintro e w3 ⟨rfl, κ3, hT3, hS3⟩; have HT3 := hide hT3; have HS3 := hide hS3; have C13 := hide (next_some HT3.out (by decide) (by decide) (fun x _ h => (by cases h)) (L := [⟨#[1]⟩]) (x := ⟨#[2]⟩) rfl); clear hT3 hS3 C11'))
    | (go_at_call 13; ((with_reducible refine C13.out.mono ?_); rintro e w4 ⟨rfl, -, κ4, hT4, hS4⟩; have HT4 := hide hT4; have HS4 := hide hS4; have C23 := hide (steal_some HT4.out (by decide) (L := []) (x := ⟨#[1]⟩) rfl); clear hT4 hS4 C13))
    | (go_at_call 23; ((with_reducible refine C23.out.mono ?_); rintro e w5 ⟨rfl, -, hT5, hS5⟩; have HT5 := hide hT5; have HS5 := hide hS5; have C31 := hide (len_any HT5.out); rw [show ({ rdy := [], goi := [⟨#[2]⟩], prk := [], al := del [⟨#[2]⟩, ⟨#[1]⟩] ⟨#[1]⟩, mx := 5, wt := 0 } : Tb).al.length = 1 by rw [del1]; rfl] at C31; clear hT5 hS5 C23))
    | (go_at_call 31; ((with_reducible refine C31.out.mono ?_); rintro e w6 ⟨rfl, rfl⟩)))
  go_ret
  refine ⟨rfl, ?_⟩
  exact stp_below (HS2.out.trans (HS3.out.trans (HS4.out.trans HS5.out))) HB1.out (by omega) HK.out
end Go.Proofs.Ytandbkbodlbjcaa
