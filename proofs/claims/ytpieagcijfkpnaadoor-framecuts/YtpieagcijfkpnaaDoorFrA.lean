/- What the small functions of frames come to. -/
import Derived.Test.YtpieagcijfkpnaaDoorFrP
import Derived.Test.YtpieagcijfkpnaaDoorMore
import Derived.Test.YtpieagcijfkpnaaDoorRef
namespace Go.Proofs.YtpieagcijfkpnaaDoor
open Go.RowKit Go.ChangeShapes Go.WideShapes Go.ChangeAt Go.Deep

theorem all_no {ns : List Int} {m : Int} {k : Nat} (h : k < ns.length) (hx : okN m ns[k] = false) : ns.all (okN m) = false := by
  rw [List.all_eq_false]
  exact ⟨ns[k], List.getElem_mem _, by simp [hx]⟩
theorem all_step {ns : List Int} {m : Int} {k : Nat} (h : k < ns.length) (hp : (ns.take k).all (okN m) = true) (hx : okN m ns[k] = true) : (ns.take (k + 1)).all (okN m) = true := by
  rw [List.take_succ_eq_append_getElem h, List.all_append, hp]
  simp [hx]

set_option maxRecDepth 100000 in
set_option maxHeartbeats 400000 in
/-- frame.within. -/
theorem within_any (m : Int) (a : Option Addr) (len cap : Nat) (ns : List Int) (w : World) (hl : ns.length = len) (hlen : len ≤ 100) (hr : Reads w a (iV ns)) :
    Calls Tryd.prog 32 #[.int .i64 m, .slice a len cap] w fun e w' => e = .returned (.bool (ns.all (okN m))) ∧ w' = w := by
  go_enter Tryd.func32, Tryd.ntmps32
  go_wp2
  go_loopw [9] (fun i wr => wr = w ∧ ∃ k : Nat, k ≤ len ∧ i = .int .i64 (k : Nat) ∧ Hid ((ns.take k).all (okN m) = true)) (fun i _ => len - (intOf i).toNat)
  case atStart => exact ⟨rfl, 0, Nat.zero_le _, rfl, hide rfl⟩
  case round =>
    obtain ⟨rfl, k, hk, rfl, hall⟩ := hrel
    by_cases hlt : k < len
    · have hkn : k < ns.length := by omega
      obtain ⟨b, off, har, hcs⟩ := reads_at hr hkn
      subst har
      have hcell := hcs.out k (.int .i64 ns[k]) (by simp [iV, hkn])
      have HN := hide (fun h => all_no (m := m) hkn h)
      have HY := hide (fun h => all_step (m := m) hkn hall.out h)
      obtain ⟨x, hx⟩ : ∃ x, x = ns[k] := ⟨_, rfl⟩
      rw [← hx] at hcell HN HY
      clear hx hcs hall
      by_cases h0 : x < 0
      · have HF := hide (HN.out (by simp [okN]; omega))
        clear HN HY
        go_wp2
        go_ret
        exact ⟨by rw [HF.out]; rfl, rfl⟩
      · by_cases h1 : m < x
        · have HF := hide (HN.out (by simp [okN]; omega))
          clear HN HY
          go_wp2
          go_ret
          exact ⟨by rw [HF.out]; rfl, rfl⟩
        · have HF := hide (HY.out (by simp [okN]; omega))
          clear HN HY
          go_wp2
          go_roundw
          case rel => exact ⟨trivial, k + 1, by omega, by go_num, HF⟩
          case measure => simp [intOf]; omega
    · have e : ns.take k = ns := List.take_of_length_le (by omega)
      rw [e] at hall
      go_wp2
      go_ret
      exact ⟨by rw [hall.out]; rfl, rfl⟩

/-- The frame as a value. -/
def Fr.val (f : Fr) (a : Option Addr) (l c : Nat) : Value := .agg #[.int .i64 f.fr, .int .i64 f.to, .int .i64 f.life, .int .i64 f.seq, .int .i64 f.ack, .slice a l c]

theorem within2 (m x y : Int) (W : World) (g : Nat) (hg : g = W.heap.size) :
    Calls Tryd.prog 32 #[.int .i64 m, .slice (some ⟨g, 0, none⟩) 2 2] (W.alloc (.cells #[.int .i64 x, .int .i64 y] 3)) fun e w' => e = .returned (.bool (okN m x && okN m y)) ∧ w' = W.alloc (.cells #[.int .i64 x, .int .i64 y] 3) := by
  subst hg
  have h := within_any m (some ⟨W.heap.size, 0, none⟩) 2 2 [x, y] (W.alloc (.cells #[.int .i64 x, .int .i64 y] 3)) rfl (by omega) (reads_new W (iV [x, y]) 3)
  simpa using h
theorem within3 (m x y z : Int) (W : World) (g : Nat) (hg : g = W.heap.size) :
    Calls Tryd.prog 32 #[.int .i64 m, .slice (some ⟨g, 0, none⟩) 3 3] (W.alloc (.cells #[.int .i64 x, .int .i64 y, .int .i64 z] 3)) fun e w' => e = .returned (.bool (okN m x && (okN m y && okN m z))) ∧ w' = W.alloc (.cells #[.int .i64 x, .int .i64 y, .int .i64 z] 3) := by
  subst hg
  have h := within_any m (some ⟨W.heap.size, 0, none⟩) 3 3 [x, y, z] (W.alloc (.cells #[.int .i64 x, .int .i64 y, .int .i64 z] 3)) rfl (by omega) (reads_new W (iV [x, y, z]) 3)
  simpa using h

set_option maxRecDepth 100000 in
set_option maxHeartbeats 1000000 in
/-- frame.wrong. -/
theorem wrong_any (f : Fr) (a : Option Addr) (l c : Nat) (w : World) (hl : f.load.length = l) (hlen : l ≤ 9223372036854775807) :
    Calls Tryd.prog 15 #[f.val a l c] w fun e w' => e = .returned (.int .i64 (wrongL f : Nat)) ∧ Below w.heap.size w w' := by
  obtain ⟨f1, f2, f3, f4, f5, ld⟩ := f
  simp only at hl
  have HW := hide (show wrongL ⟨f1, f2, f3, f4, f5, ld⟩ = if ((okN 15 f1 && okN 15 f2) && (okN 2147483647 f3 && (okN 2147483647 f4 && okN 2147483647 f5))) = true then (if 4096 < l then 3 else 0) else 1 by
    simp only [wrongL, Fr.ok, hl, Bool.and_assoc])
  unfold Fr.val
  simp only
  have C1 := hide (fun W g hg => within2 15 f1 f2 W g hg)
  have C2 := hide (fun W g hg => within3 2147483647 f3 f4 f5 W g hg)
  generalize (okN 15 f1 && okN 15 f2) = A at HW C1
  generalize (okN 2147483647 f3 && (okN 2147483647 f4 && okN 2147483647 f5)) = B at HW C2
  have b1 : ∀ (o o1 : Obj), Below w.heap.size w ((w.alloc o).alloc o1) := fun o o1 => ((Below.refl _ _).alloc (Nat.le_refl _) _).alloc (by simp) _
  have b2 : ∀ (o o1 o2 : Obj), Below w.heap.size w (((w.alloc o).alloc o1).alloc o2) := fun o o1 o2 => (b1 o o1).alloc (by simp; omega) _
  have HB1 := hide b1
  have HB2 := hide b2
  clear b1 b2 hl
  cases A with
  | false =>
    go_enter Tryd.func15, Tryd.ntmps15
    go_wp2_with (go_at_call 32; go_must (with_reducible refine (C1.out _ _ (by simp)).mono ?_; rintro e w1 ⟨rfl, rfl⟩))
    go_ret
    exact ⟨by rw [HW.out]; rfl, HB1.out _ _⟩
  | true =>
    cases B with
    | false =>
      go_enter Tryd.func15, Tryd.ntmps15
      go_wp2_with (go_at_call 32; go_must (first | (with_reducible refine (C1.out _ _ (by simp)).mono ?_; rintro e w1 ⟨rfl, rfl⟩) | (with_reducible refine (C2.out _ _ (by simp)).mono ?_; rintro e w1 ⟨rfl, rfl⟩)))
      go_ret
      exact ⟨by rw [HW.out]; rfl, HB2.out _ _ _⟩
    | true =>
      by_cases h4 : 4096 < l
      · have HW' := hide (show wrongL ⟨f1, f2, f3, f4, f5, ld⟩ = 3 by rw [HW.out]; simp [h4])
        go_enter Tryd.func15, Tryd.ntmps15
        go_wp2_with (go_at_call 32; go_must (first | (with_reducible refine (C1.out _ _ (by simp)).mono ?_; rintro e w1 ⟨rfl, rfl⟩) | (with_reducible refine (C2.out _ _ (by simp)).mono ?_; rintro e w1 ⟨rfl, rfl⟩)))
        go_ret
        exact ⟨by rw [HW'.out]; rfl, HB2.out _ _ _⟩
      · have HW' := hide (show wrongL ⟨f1, f2, f3, f4, f5, ld⟩ = 0 by rw [HW.out]; simp [h4])
        go_enter Tryd.func15, Tryd.ntmps15
        go_wp2_with (go_at_call 32; go_must (first | (with_reducible refine (C1.out _ _ (by simp)).mono ?_; rintro e w1 ⟨rfl, rfl⟩) | (with_reducible refine (C2.out _ _ (by simp)).mono ?_; rintro e w1 ⟨rfl, rfl⟩)))
        go_ret
        exact ⟨by rw [HW'.out]; rfl, HB2.out _ _ _⟩

end Go.Proofs.YtpieagcijfkpnaaDoor
