/- EvalDeep: its walk. -/
import Derived.Test.YtbpcibnomkfglaaGreatDoorEvA
namespace Go.Proofs.YtbpcibnomkfglaaGreatDoor
open Go.RowKit Go.ChangeShapes Go.WideShapes Go.ChangeAt Go.Deep

def deepC : List (Int × Int) := [(5, 0), (15, 10), (5, 0), (1, 1), (8, 0), (16, 0), (17, 0), (1, 1), (7, 0), (18, 0), (1, 0), (18, 0)]
def deepB (n : Nat) : Bool :=
  match doE [⟨fnm, 1, 1, deepC⟩] 100 50 101 101 14 [] [] 0 [(n : Int)] with
  | some (E, false, _) => if n ≤ 12 then E.length == n + 1 && (match E[0]? with | some x => x.ev == (n : Int) && x.er == 0 | none => false) else E.length == 13 && (match E[0]? with | some x => x.er == 22 | none => false) && (match E[12]? with | some x => x.er == 22 && x.kids == 0 | none => false)
  | _ => false
theorem deepB_all : ∀ n : Fin 31, deepB n.1 = true := by decide +kernel
theorem deep_check : (checkL [⟨fnm, 1, 1, deepC⟩] 0 1 100 50).2.2 = 0 := by kernel_rfl
theorem deep_ev (n : Nat) (h : n ≤ 30) : ∃ E r, doE [⟨fnm, 1, 1, deepC⟩] 100 50 101 101 14 [] [] 0 [(n : Int)] = some (E, false, r) ∧ E ≠ [] ∧ (if n ≤ 12 then E.length = n + 1 ∧ ∃ x, E[0]? = some x ∧ x.ev = (n : Int) ∧ x.er = 0 else E.length = 13 ∧ (∃ x, E[0]? = some x ∧ x.er = 22) ∧ ∃ x, E[12]? = some x ∧ x.er = 22 ∧ x.kids = 0) := by
  have hb := deepB_all ⟨n, by omega⟩
  simp only at hb
  unfold deepB at hb
  split at hb
  · rename_i E r hq
    refine ⟨E, r, hq, ?_, ?_⟩
    · rintro rfl
      split at hb <;> simp at hb
    · split at hb
      · rename_i h12
        rw [if_pos h12]
        simp only [Bool.and_eq_true, beq_iff_eq] at hb
        obtain ⟨h1, h2⟩ := hb
        refine ⟨h1, ?_⟩
        split at h2
        · rename_i x hx
          simp only [Bool.and_eq_true, beq_iff_eq] at h2
          exact ⟨x, hx, h2.1, h2.2⟩
        · cases h2
      · rename_i h12
        rw [if_neg h12]
        simp only [Bool.and_eq_true, beq_iff_eq] at hb
        obtain ⟨⟨h1, h2⟩, h3⟩ := hb
        refine ⟨h1, ?_, ?_⟩
        · split at h2
          · rename_i x hx
            exact ⟨x, hx, by simpa using h2⟩
          · cases h2
        · split at h3
          · rename_i x hx
            simp only [Bool.and_eq_true, beq_iff_eq] at h3
            exact ⟨x, hx, h3.1, h3.2⟩
          · cases h3
  · cases hb
set_option linter.unusedSimpArgs false in
set_option maxRecDepth 100000 in
set_option maxHeartbeats 8000000 in
theorem deep_any (n : Int) (w : World) (hE : Env w) : Calls Tryz.prog 6 #[.int .i64 n] w fun r w' => r = .returned (.bool true) ∧ Below w.heap.size w w' := by
  have CA := alive_any w hE
  by_cases g0 : n < 0
  · go_enter Tryz.func6, Tryz.ntmps6
    go_wp2_with (go_at_call 10; go_must (with_reducible refine CA.mono ?_; (rintro e w1 ⟨rfl, hb1⟩)))
    go_ret
    exact ⟨rfl, hb1⟩
  by_cases g1 : 30 < n
  · go_enter Tryz.func6, Tryz.ntmps6
    go_wp2_with (go_at_call 10; go_must (with_reducible refine CA.mono ?_; (rintro e w1 ⟨rfl, hb1⟩)))
    go_ret
    exact ⟨rfl, hb1⟩
  obtain ⟨m, rfl⟩ : ∃ m : Nat, n = (m : Int) := ⟨n.toNat, by omega⟩
  have hm : m ≤ 30 := by omega
  obtain ⟨E, r, hq, hne, hall⟩ := deep_ev m hm
  obtain ⟨r1, r2⟩ := r
  have HQ := hide hq
  have HNE := hide hne
  have HALL := hide hall
  clear hq hne hall
  go_enter Tryz.func6, Tryz.ntmps6
  go_wp2_with (go_at_call 10; go_must (with_reducible refine CA.mono ?_; (rintro e w1 ⟨rfl, hb1⟩); refine Hid.out ?_))
  refine Lib.hid ?_
  clear CA
  go_upto_region 6 with fail
  obtain ⟨hb4, hsz, p1, p2, p3, p4⟩ := four_blocks w1 (.cells #[.int .i64 5, .int .i64 0, .int .i64 15, .int .i64 10, .int .i64 5, .int .i64 0, .int .i64 1, .int .i64 1, .int .i64 8, .int .i64 0, .int .i64 16, .int .i64 0, .int .i64 17, .int .i64 0, .int .i64 1, .int .i64 1, .int .i64 7, .int .i64 0, .int .i64 18, .int .i64 0, .int .i64 1, .int .i64 0, .int .i64 18, .int .i64 0] 40) (.cells #[.string ⟨#[102]⟩, .int .i64 1, .int .i64 1, .slice (some ⟨w1.heap.size, 0, none⟩) 12 12] 43) (.cells #[.int .i64 (m : Int)] 3) (.cells #[.slice (some ⟨w1.heap.size + 1, 0, none⟩) 1 1, .int .i64 0, .slice (some ⟨w1.heap.size + 1 + 1, 0, none⟩) 1 1, .int .i64 100, .int .i64 50] 30)
  generalize ((((w1.alloc (.cells #[.int .i64 5, .int .i64 0, .int .i64 15, .int .i64 10, .int .i64 5, .int .i64 0, .int .i64 1, .int .i64 1, .int .i64 8, .int .i64 0, .int .i64 16, .int .i64 0, .int .i64 17, .int .i64 0, .int .i64 1, .int .i64 1, .int .i64 7, .int .i64 0, .int .i64 18, .int .i64 0, .int .i64 1, .int .i64 0, .int .i64 18, .int .i64 0] 40)).alloc (.cells #[.string ⟨#[102]⟩, .int .i64 1, .int .i64 1, .slice (some ⟨w1.heap.size, 0, none⟩) 12 12] 43)).alloc (.cells #[.int .i64 (m : Int)] 3)).alloc (.cells #[.slice (some ⟨w1.heap.size + 1, 0, none⟩) 1 1, .int .i64 0, .slice (some ⟨w1.heap.size + 1 + 1, 0, none⟩) 1 1, .int .i64 100, .int .i64 50] 30)) = w5 at *
  have hr : Reads w5 (some ⟨w1.heap.size, 0, none⟩) (insV deepC) := .inr ⟨w1.heap.size, 0, rfl, fun i u hu => by
    rw [Nat.zero_add]
    exact cell_row (cs := insV deepC) p1 hu⟩
  have hra : Reads w5 (some ⟨w1.heap.size + 1 + 1, 0, none⟩) (iV [(m : Int)]) := .inr ⟨w1.heap.size + 1 + 1, 0, rfl, fun i u hu => by
    rw [Nat.zero_add]
    exact cell_row (cs := iV [(m : Int)]) p3 hu⟩
  have j0 : w5.cell? ⟨w1.heap.size + 1 + 1 + 1, 0, none⟩ = some (.slice (some ⟨w1.heap.size + 1, 0, none⟩) 1 1) := by simp only [World.cell?, p4]; rfl
  have j1 : w5.cell? ⟨w1.heap.size + 1 + 1 + 1, 1, none⟩ = some (.int .i64 0) := by simp only [World.cell?, p4]; rfl
  have j2 : w5.cell? ⟨w1.heap.size + 1 + 1 + 1, 2, none⟩ = some (.slice (some ⟨w1.heap.size + 1 + 1, 0, none⟩) 1 1) := by simp only [World.cell?, p4]; rfl
  have j3 : w5.cell? ⟨w1.heap.size + 1 + 1 + 1, 3, none⟩ = some (.int .i64 100) := by simp only [World.cell?, p4]; rfl
  have j4 : w5.cell? ⟨w1.heap.size + 1 + 1 + 1, 4, none⟩ = some (.int .i64 50) := by simp only [World.cell?, p4]; rfl
  have C11 : Calls Tryz.prog 11 #[.agg #[.slice (some ⟨w1.heap.size + 1, 0, none⟩) 1 1, .int .i64 0, .slice (some ⟨w1.heap.size + 1 + 1, 0, none⟩) 1 1, .int .i64 100, .int .i64 50]] w5 (EvOk w5 E) := (eval_gen 1 1 100 50 (some ⟨w1.heap.size + 1 + 1, 0, none⟩) 1 1 [(m : Int)] p2 rfl hr rfl hra (fun h => by cases h) (hE.below (chain hb1 hb4)) (by decide) deep_check 101 101 14 _ HQ.out).mono fun e w' h => h.ok HNE.out
  unfold EvOk at C11
  have HB5 := hide (chain hb1 hb4)
  clear p1 p2 p3 p4 hr hra hb1 hb4 hE hsz
  go_wp2_with (go_at_call 11; go_must (with_reducible refine C11.mono ?_; (rintro e w6 ⟨g, ec, rfl, hat, hb6⟩); refine Hid.out ?_))
  refine Lib.hid ?_
  have HF := hide (chain HB5.out hb6)
  have TN := num_any
  clear C11 j0 j1 j2 j3 j4 hb6 HB5
  by_cases h12 : m ≤ 12
  · have hall := HALL.out
    rw [if_pos h12] at hall
    obtain ⟨hl, x, hx, h1, h2⟩ := hall
    have a0 := hat 0 x hx
    have c4 : w6.cell? ⟨g, 4, none⟩ = some (.int .i64 (m : Int)) := by rw [← h1]; exact a0.ev
    have c3 : w6.cell? ⟨g, 3, none⟩ = some (.int .i64 0) := by rw [← h2]; exact a0.er
    have k12 : (m : Int) ≤ 12 := by omega
    have wr : IntKind.i64.wrap ((m : Int) + 1) = (m : Int) + 1 := wrapi (by omega)
    have hpos : 0 < E.length := by omega
    have hpi : (0 : Int) < (E.length : Int) := by omega
    have hli : (E.length : Int) = (m : Int) + 1 := by omega
    have hle : ((E.length : Int) == (m : Int) + 1) = true := by simpa using hli
    clear hat a0 hx h1 h2 hl hli HALL h12
    go_wp2_with (go_at_call 13; go_must (with_reducible refine (TN _ _).mono ?_; (rintro e w7 ⟨rfl, rfl⟩); refine Hid.out ?_))
    refine Lib.hid ?_
    go_wp2_with (go_at_call 13; go_must (with_reducible refine (TN _ _).mono ?_; (rintro e w7 ⟨rfl, rfl⟩); refine Hid.out ?_))
    refine Lib.hid ?_
    go_wp2_with fail
    go_ret
    exact ⟨rfl, HF.out⟩
  · have hall := HALL.out
    rw [if_neg h12] at hall
    obtain ⟨hl, ⟨x, hx, h1⟩, y, hy, h2, h3⟩ := hall
    have a0 := hat 0 x hx
    have a1 := hat 12 y hy
    have c3 : w6.cell? ⟨g, 3, none⟩ = some (.int .i64 22) := by rw [← h1]; exact a0.er
    have d3 : w6.cell? ⟨g, 99, none⟩ = some (.int .i64 22) := by rw [← h2]; exact a1.er
    have d6 : w6.cell? ⟨g, 102, none⟩ = some (.int .i64 0) := by have := a1.kids; rw [h3] at this; exact this
    have k12 : ¬ (m : Int) ≤ 12 := by omega
    rw [hl] at *
    clear hat a0 a1 hx hy h1 h2 h3 hl HALL h12
    go_wp2_with (go_at_call 13; go_must (with_reducible refine (TN _ _).mono ?_; (rintro e w7 ⟨rfl, rfl⟩); refine Hid.out ?_))
    refine Lib.hid ?_
    go_wp2_with (go_at_call 13; go_must (with_reducible refine (TN _ _).mono ?_; (rintro e w7 ⟨rfl, rfl⟩); refine Hid.out ?_))
    refine Lib.hid ?_
    go_wp2_with (go_at_call 13; go_must (with_reducible refine (TN _ _).mono ?_; (rintro e w7 ⟨rfl, rfl⟩); refine Hid.out ?_))
    refine Lib.hid ?_
    go_wp2_with fail
    go_ret
    exact ⟨rfl, HF.out⟩
end Go.Proofs.YtbpcibnomkfglaaGreatDoor
