/- DequeThieves answers true. -/
import Derived.Test.YtaooglcjcnkgnaaIts
import Derived.Test.YtaooglcjcnkgnaaThu
namespace Go.Proofs.Ytaooglcjcnkgnaa
open Go.RowKit Go.ChangeShapes Go.WideShapes Go.ChangeAt Go.Deep

namespace dequeThieves

/-- What is pushed. -/
def th (k : Nat) : List Int := (List.range k).map fun (j : Nat) => 50 + (j : Int)
theorem th_len (k : Nat) : (th k).length = k := by simp [th]
theorem th_at {k j : Nat} (h : j < k) : (th k)[j]? = some (50 + (j : Int)) := by simp [th, h]
theorem th_succ (k : Nat) : th (k + 1) = th k ++ [50 + (k : Int)] := by simp [th, List.range_succ]
theorem th_drop {n k : Nat} (h : k < n) : (th n).drop k = (50 + (k : Int)) :: (th n).drop (k + 1) := by
  rw [List.drop_eq_getElem_cons (by rw [th_len]; exact h)]
  congr 1
  simp [th]

/-- A deque that nobody is at, in memory. -/
structure TM (w wr : World) (cb m : Nat) (d : Dq) (R : List Int) : Prop where
  bel : Below w.heap.size w wr
  dn : Dn (fun k => k < w.heap.size) wr cb d
  al : Al d R
  sm : Sml m d

theorem TM.push {w wr : World} {cb m : Nat} {d : Dq} {R : List Int} (h : TM w wr cb m d R) (hm : m ≤ 10000) (i : Int) : Calls Try.prog 23 #[.pointer (some ⟨cb, 0, none⟩), .int .i64 0, .int .i64 1, .int .i64 i] wr fun e w' => ∃ v d', e = .returned (.tuple #[.int .i64 1, .int .i64 v]) ∧ TM w w' cb (m + 12) d' (R ++ [i]) := by
  have hb := h.sm.bot
  obtain ⟨h1, h2⟩ := thru_push h.al (by omega) i
  refine (h.dn.thru (h.sm.mono (by omega)) 0 1 i).mono ?_
  rintro e w' ⟨rfl, hd, hK⟩
  rw [h1]
  exact ⟨_, _, rfl, hK.below h.bel (Nat.le_refl _) (fun k hk => hk), hd, h2, h.sm.thru 0 1 i⟩

theorem TM.steal {w wr : World} {cb m : Nat} {d : Dq} {R : List Int} (h : TM w wr cb m d R) (hm : m ≤ 10000) (p : Nat) (hp1 : 1 ≤ p) (hp : p < 16) : Calls Try.prog 23 #[.pointer (some ⟨cb, 0, none⟩), .int .i64 (p : Int), .int .i64 3, .int .i64 0] wr fun e w' => ∃ a v d' R', e = .returned (.tuple #[.int .i64 a, .int .i64 v]) ∧ TM w w' cb (m + 12) d' R' ∧ (a = 3 ∧ R = [] ∧ R' = [] ∨ a = 2 ∧ R = v :: R') := by
  have hb := h.sm.bot
  refine (h.dn.thru (h.sm.mono (by omega)) p 3 0).mono ?_
  rintro e w' ⟨rfl, hd, hK⟩
  have hb2 := hK.below h.bel (Nat.le_refl _) (fun k hk => hk)
  have hs := h.sm.thru p 3 0
  rcases thru_steal h.al (by omega) p hp1 hp with ⟨h1, h2, h3⟩ | ⟨R', x, h1, h2, h3, h4⟩
  · exact ⟨_, _, _, [], rfl, ⟨hb2, hd, h3, hs⟩, .inl ⟨h1, h2, rfl⟩⟩
  · exact ⟨_, _, _, R', rfl, ⟨hb2, hd, h4, hs⟩, .inr ⟨h2, by rw [h1, h3]⟩⟩

theorem st_some {a v x : Int} {R' Q : List Int} (h : a = 3 ∧ x :: Q = [] ∧ R' = [] ∨ a = 2 ∧ x :: Q = v :: R') : a = 2 ∧ v = x ∧ R' = Q := by
  rcases h with ⟨_, h, _⟩ | ⟨h1, h2⟩
  · cases h
  · simp only [List.cons.injEq] at h2
    exact ⟨h1, h2.1.symm, h2.2.symm⟩

theorem st_none {a v : Int} {R' : List Int} (h : a = 3 ∧ ([] : List Int) = [] ∧ R' = [] ∨ a = 2 ∧ ([] : List Int) = v :: R') : a = 3 ∧ R' = [] := by
  rcases h with ⟨h1, _, h2⟩ | ⟨_, h⟩
  · exact ⟨h1, h2⟩
  · cases h

/-- The deque, while another row grows from block wb on. -/
structure WM (w wr : World) (cb wb m : Nat) (d : Dq) (v : Value) (k : Nat) (Q : List Int) : Prop where
  bel : Below w.heap.size w wr
  dq : ∃ g, DqM wr cb g d ∧ g < wb
  lt : cb < wb
  hwb : w.heap.size ≤ wb
  hwr : wb ≤ wr.heap.size
  own : wr.ownsRow wb 3 1 v k (iV Q)

theorem TM.wm {w wr : World} {cb m : Nat} {d : Dq} {R : List Int} (h : TM w wr cb m d R) : WM w wr cb wr.heap.size m d (.slice none 0 0) 0 [] := by
  obtain ⟨_, g, hM, _, _⟩ := h.dn
  exact ⟨h.bel, ⟨g, hM, hM.lt.2⟩, hM.lt.1, h.bel.size, Nat.le_refl _, World.ownsRow_nil _ _ _ _⟩

theorem WM.alloc {w wr : World} {cb wb m : Nat} {d : Dq} {v : Value} {k : Nat} {Q : List Int} (h : WM w wr cb wb m d v k Q) (o : Obj) : WM w (wr.alloc o) cb wb m d v k Q := by
  have hb := below_new wr o
  obtain ⟨g, hM, hg⟩ := h.dq
  exact ⟨h.bel.trans (hb.mono h.bel.size), ⟨g, hM.below hb, hg⟩, h.lt, h.hwb, Nat.le_trans h.hwr hb.size, own_below h.own hb⟩

theorem WM.app {w wr w' : World} {cb wb m : Nat} {d : Dq} {v v' : Value} {k k' : Nat} {Q Q' : List Int} (h : WM w wr cb wb m d v k Q) (hg : wr.grownBy w' v.ownBlock) (ho : w'.ownsRow wb 3 1 v' k' (iV Q')) : WM w w' cb wb m d v' k' Q' := by
  obtain ⟨g, hM, hgl⟩ := h.dq
  have hlow := own_low h.own
  have hk : ∀ j, j < wb → w'.heap[j]? = wr.heap[j]? := fun j hj => hg.block j (Nat.lt_of_lt_of_le hj h.hwr) (fun e => by have := hlow j e.symm; omega)
  have hbel : Below wb wr w' := ⟨hg.os, hg.tape, hg.output, hg.size, hk⟩
  refine ⟨?_, ⟨g, ?_, hgl⟩, h.lt, h.hwb, Nat.le_trans h.hwr hg.size, ho⟩
  · exact h.bel.grown hg h.bel.size (fun k hk => Nat.le_trans h.hwb (hlow k hk))
  · exact ⟨hM.bx.keep (hk cb h.lt), hM.pow, hM.len, hM.own.kept (row := v.ownBlock) hg (by
      right
      simp only [Value.ownBlock]
      intro e
      have := hlow g e.symm
      omega), hM.ne⟩

set_option maxRecDepth 100000 in
theorem walk_skip (n s : Int) (w : World) (h : n < 0 ∨ 100 < n ∨ s < 0 ∨ 120 < s) : Calls Try.prog 8 #[.int .i64 n, .int .i64 s] w fun e w' => e = .returned (.bool true) ∧ Below w.heap.size w w' := by
  have h' : n < 0 ∨ (¬ n < 0 ∧ 100 < n) ∨ (¬ n < 0 ∧ ¬ 100 < n ∧ s < 0) ∨ (¬ n < 0 ∧ ¬ 100 < n ∧ ¬ s < 0 ∧ 120 < s) := by omega
  clear h
  rcases h' with h1 | ⟨h1, h2⟩ | ⟨h1, h2, h3⟩ | ⟨h1, h2, h3, h4⟩
  all_goals
    go_enter Try.func8, Try.ntmps8
    go_wp2_with (go_at_call 10; go_must ((with_reducible refine (alive_any w).mono ?_); rintro e w1 ⟨rfl, hb1⟩))
    go_ret
    exact ⟨rfl, hb1⟩

set_option maxRecDepth 100000 in
set_option maxHeartbeats 4000000 in
theorem walk_main (n s : Nat) (w : World) (hn : n ≤ 100) (hs : s ≤ 120) : Calls Try.prog 8 #[.int .i64 (n : Int), .int .i64 (s : Int)] w fun e w' => e = .returned (.bool true) ∧ Below w.heap.size w w' := by
  have CS := hide (fun (Q : List Int) (aa ba : Option Addr) (ac bc : Nat) (W : World) (m : Nat) (h1 : Q.length = m) (h2 : m ≤ 20000) ra rb => sameInts_any Q Q aa ba m ac m bc W h1 h1 h2 ra rb)
  go_enter Try.func8, Try.ntmps8
  go_wp2_with (first
    | (go_at_call 10; go_must ((with_reducible refine (alive_any w).mono ?_); rintro e w1 ⟨rfl, hb1⟩; have C11 := hide (Dn.new hb1); clear hb1))
    | (go_at_call 11; go_must ((with_reducible refine C11.out.mono ?_); rintro e w2 ⟨cb, rfl, hD, hB⟩; have HT := hide (show TM w w2 cb 0 Dq.zero [] from ⟨hB, hD, Al.zero, Sml.zero⟩); clear hD hB)))
  go_loopw [7] (fun i wr => ∃ (k : Nat) (d : Dq), k ≤ n ∧ i = .int .i64 (k : Nat) ∧ Hid (TM w wr cb (12 * k) d (th k))) (fun i _ => n - (intOf i).toNat)
  case atStart => exact ⟨0, Dq.zero, Nat.zero_le _, rfl, HT⟩
  case round =>
    obtain ⟨k, d, hk, rfl, HM⟩ := hrel
    by_cases hlt : k < n
    · have C23 := hide (HM.out.push (by omega) (50 + (k : Int)))
      go_wp2_with (go_at_call 23; go_must ((with_reducible refine C23.out.mono ?_); rintro e w3 ⟨v, d', rfl, hM⟩; have HM3 := hide hM; clear hM))
      go_roundw
      case rel => exact ⟨k + 1, d', by omega, by go_num, hide (by rw [th_succ, show 12 * (k + 1) = 12 * k + 12 by omega]; exact HM3.out)⟩
      case measure => simp [intOf]; omega
    · obtain rfl : k = n := by omega
      go_wp2
      go_loopw [8] (fun i wr => ∃ (q : Nat) (d : Dq), q ≤ s ∧ i = .int .i64 (q : Nat) ∧ Hid (TM w wr cb (12 * k + 12 * q) d ((th k).drop q))) (fun i _ => s - (intOf i).toNat)
      case atStart => exact ⟨0, d, Nat.zero_le _, rfl, hide (by simpa using HM.out)⟩
      case round =>
        obtain ⟨q, d, hq, rfl, HM⟩ := hrel
        by_cases hqs : q < s
        · have C23 := hide (HM.out.steal (by omega) (1 + q % 15) (by omega) (by omega))
          have hp : (((1 + q % 15 : Nat) : Nat) : Int) = 1 + (q : Int) % 15 := by omega
          rw [hp] at C23
          clear hp
          by_cases hqk : q < k
          · have HD := hide (th_drop hqk)
            have hw : IntKind.i64.wrap (50 + (q : Int)) = 50 + (q : Int) := by rw [IntKind.wrap_i64]; omega
            go_wp2_with (go_at_call 23; go_must ((with_reducible refine C23.out.mono ?_); rintro e w3 ⟨a, v, d', R', rfl, hM, hR⟩; rw [HD.out] at hR; obtain ⟨rfl, rfl, rfl⟩ := st_some hR; have HM3 := hide hM; clear hM hR))
            go_roundw
            case rel => exact ⟨q + 1, d', by omega, by go_num, hide (by rw [show 12 * k + 12 * (q + 1) = 12 * k + 12 * q + 12 by omega]; exact HM3.out)⟩
            case measure => simp [intOf]; omega
          · have HD := hide (show (th k).drop q = [] ∧ (th k).drop (q + 1) = [] from ⟨List.drop_of_length_le (by rw [th_len]; omega), List.drop_of_length_le (by rw [th_len]; omega)⟩)
            have hqk' : ¬ (q : Int) < (k : Int) := by omega
            have hqk'' : (k : Int) ≤ (q : Int) := by omega
            go_wp2_with (go_at_call 23; go_must ((with_reducible refine C23.out.mono ?_); rintro e w3 ⟨a, v, d', R', rfl, hM, hR⟩; rw [HD.out.1] at hR; obtain ⟨rfl, rfl⟩ := st_none hR; have HM3 := hide hM; clear hM hR))
            go_roundw
            case rel => exact ⟨q + 1, d', by omega, by go_num, hide (by rw [HD.out.2, show 12 * k + 12 * (q + 1) = 12 * k + 12 * q + 12 by omega]; exact HM3.out)⟩
            case measure => simp [intOf]; omega
        · obtain rfl : q = s := by omega
          have HI := hide HM.out.al.items
          have HSM := hide HM.out.sm
          have HW := hide HM.out.wm
          clear HM
          generalize wr.heap.size = wb at HW
          go_wp2
          go_loopw [11, 12] (fun v i wr => ∃ (j : Nat) (a : Option Addr) (c : Nat), q + j ≤ max q k ∧ i = .int .i64 ((q + j : Nat) : Int) ∧ v = .slice a j c ∧ Hid (WM w wr cb wb 0 d (.slice a j c) j (((th k).drop q).take j))) (fun _ i _ => k - (intOf i).toNat)
          case atStart => exact ⟨0, none, 0, by omega, by simp, rfl, hide (by
            have := HW.out
            exact ⟨this.bel, this.dq, this.lt, this.hwb, this.hwr, by simpa using this.own⟩)⟩
          case round =>
            obtain ⟨j, a, c, hj, rfl, rfl, HV⟩ := hrel
            by_cases hjk : q + j < k
            · have hjk' : (((q + j : Nat) : Nat) : Int) < (k : Int) := by omega
              have HX := hide (show ((th k).drop q)[j]? = some (50 + ((q + j : Nat) : Int)) by rw [List.getElem?_drop]; exact th_at hjk)
              rename_i wr _ _
              go_wp2_with (at_builtin; go_must (refine append_ints rfl (.tmp 84) (.tmp 87) rfl wb (.slice a j c) j (((th k).drop q).take j) rfl (HV.out.alloc _).own (some ⟨wr.heap.size, 0, none⟩) 1 1 [50 + ((q + j : Nat) : Int)] rfl (fun h => by cases h) rfl (reads_new wr (iV [50 + ((q + j : Nat) : Int)]) 3) (by omega) (by have := HV.out.hwr; simp; omega) ?_; intro v' w4 ho4 hg4; obtain ⟨a', c', rfl, -, -⟩ := own_form ho4; have HV4 := hide ((HV.out.alloc _).app hg4 ho4); clear ho4 hg4))
              go_roundw
              case rel => exact ⟨j + 1, a', c', by omega, by go_num, rfl, hide (by rw [take_more HX.out]; exact HV4.out)⟩
              case measure => simp [intOf]; omega
            · have hjk' : ¬ (((q + j : Nat) : Nat) : Int) < (k : Int) := by omega
              have HL := hide (show ((th k).drop q).length = j by rw [List.length_drop, th_len]; omega)
              have HT := hide (List.take_of_length_le (l := (th k).drop q) (i := j) (by rw [HL.out]; exact Nat.le_refl _))
              have HQ := HV.out
              rw [HT.out] at HQ
              obtain ⟨g, hM, _⟩ := HQ.dq
              have C21 := hide (items_any _ cb g d hM (HSM.out.mono (by omega)))
              rw [HI.out] at C21
              have HB := hide HQ.bel
              obtain ⟨a2, c2, e2, _, hr, _, _⟩ := own_reads HQ.own
              simp only [Value.slice.injEq, true_and] at e2
              obtain ⟨rfl, rfl⟩ := e2
              have HR := hide hr
              clear HQ hM hr HV HI HSM HT
              go_wp2_with (first
                | (go_at_call 21; go_must ((with_reducible refine C21.out.mono ?_); rintro e w5 ⟨a5, m5, c5, rfl, hm5, ho5, hb5⟩; rw [HL.out] at hm5; subst hm5; obtain ⟨a6, c6, e6, _, hr6, _, _⟩ := own_reads ho5; simp only [Value.slice.injEq, true_and] at e6; obtain ⟨rfl, rfl⟩ := e6; have C20 := hide (CS.out _ _ _ c5 c w5 m5 HL.out (by omega) hr6 (HR.out.below hb5)); have HB5 := hide (HB.out.trans (hb5.mono HB.out.size)); clear ho5 hb5 hr6))
                | (go_at_call 20; go_must ((with_reducible refine C20.out.mono ?_); rintro e w6 ⟨rfl, hb6⟩; have HB6 := hide (HB5.out.trans (hb6.mono HB5.out.size)); clear hb6)))
              go_ret
              exact ⟨ret_bool (by simp), HB6.out⟩

theorem walk (n s : Int) (w : World) (_h1 : -9223372036854775808 ≤ n ∧ n ≤ 9223372036854775807) (_h2 : -9223372036854775808 ≤ s ∧ s ≤ 9223372036854775807) : Calls Try.prog 8 #[.int .i64 n, .int .i64 s] w fun e w' => e = .returned (.bool true) ∧ Below w.heap.size w w' := by
  by_cases h : n < 0 ∨ 100 < n ∨ s < 0 ∨ 120 < s
  · exact walk_skip n s w h
  · obtain ⟨a, rfl⟩ : ∃ a : Nat, n = a := ⟨n.toNat, by omega⟩
    obtain ⟨b, rfl⟩ : ∃ b : Nat, s = b := ⟨s.toNat, by omega⟩
    exact walk_main a b w (by omega) (by omega)
end dequeThieves
end Go.Proofs.Ytaooglcjcnkgnaa
