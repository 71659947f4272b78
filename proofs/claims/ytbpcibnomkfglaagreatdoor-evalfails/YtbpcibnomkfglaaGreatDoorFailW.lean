/- EvalFails: its walk. -/
import Derived.Test.YtbpcibnomkfglaaGreatDoorEvA
namespace Go.Proofs.YtbpcibnomkfglaaGreatDoor
open Go.RowKit Go.ChangeShapes Go.WideShapes Go.ChangeAt Go.Deep

def failC (code : Int) : Bool → List (Int × Int)
  | true => [(5, 0), (15, 8), (5, 0), (1, 1), (8, 0), (16, 0), (17, 0), (18, 0), (1, code), (19, 0)]
  | false => [(5, 0), (15, 8), (5, 0), (1, 1), (8, 0), (16, 0), (3, 0), (18, 0), (1, code), (19, 0)]
def failE (code : Int) (waits : Bool) (deep : Nat) : List (Int × Int × Nat) := (List.range (deep + 1)).map fun i => if waits || i == deep then (25, code, i) else (0, 0, i)
def enF (x : En) : Int × Int × Nat := (x.er, x.ev, x.id.length)
def failQ (code : Int) (waits : Bool) (deep : Nat) : Option (List (Int × Int × Nat) × Bool) := (doE [⟨fnm, 1, 1, failC code waits⟩] 100 50 101 101 14 [] [] 0 [(deep : Int)]).map fun q => (q.1.map enF, q.2.1)
theorem fail_true_0 (code : Int) : failQ code true 0 = some (failE code true 0, false) := by kernel_rfl
theorem fail_true_1 (code : Int) : failQ code true 1 = some (failE code true 1, false) := by kernel_rfl
theorem fail_true_2 (code : Int) : failQ code true 2 = some (failE code true 2, false) := by kernel_rfl
theorem fail_true_3 (code : Int) : failQ code true 3 = some (failE code true 3, false) := by kernel_rfl
theorem fail_true_4 (code : Int) : failQ code true 4 = some (failE code true 4, false) := by kernel_rfl
theorem fail_true_5 (code : Int) : failQ code true 5 = some (failE code true 5, false) := by kernel_rfl
theorem fail_true_6 (code : Int) : failQ code true 6 = some (failE code true 6, false) := by kernel_rfl
theorem fail_true_7 (code : Int) : failQ code true 7 = some (failE code true 7, false) := by kernel_rfl
theorem fail_true_8 (code : Int) : failQ code true 8 = some (failE code true 8, false) := by kernel_rfl
theorem fail_true_9 (code : Int) : failQ code true 9 = some (failE code true 9, false) := by kernel_rfl
theorem fail_true_10 (code : Int) : failQ code true 10 = some (failE code true 10, false) := by kernel_rfl
theorem fail_true_11 (code : Int) : failQ code true 11 = some (failE code true 11, false) := by kernel_rfl
theorem fail_false_0 (code : Int) : failQ code false 0 = some (failE code false 0, false) := by kernel_rfl
theorem fail_false_1 (code : Int) : failQ code false 1 = some (failE code false 1, false) := by kernel_rfl
theorem fail_false_2 (code : Int) : failQ code false 2 = some (failE code false 2, false) := by kernel_rfl
theorem fail_false_3 (code : Int) : failQ code false 3 = some (failE code false 3, false) := by kernel_rfl
theorem fail_false_4 (code : Int) : failQ code false 4 = some (failE code false 4, false) := by kernel_rfl
theorem fail_false_5 (code : Int) : failQ code false 5 = some (failE code false 5, false) := by kernel_rfl
theorem fail_false_6 (code : Int) : failQ code false 6 = some (failE code false 6, false) := by kernel_rfl
theorem fail_false_7 (code : Int) : failQ code false 7 = some (failE code false 7, false) := by kernel_rfl
theorem fail_false_8 (code : Int) : failQ code false 8 = some (failE code false 8, false) := by kernel_rfl
theorem fail_false_9 (code : Int) : failQ code false 9 = some (failE code false 9, false) := by kernel_rfl
theorem fail_false_10 (code : Int) : failQ code false 10 = some (failE code false 10, false) := by kernel_rfl
theorem fail_false_11 (code : Int) : failQ code false 11 = some (failE code false 11, false) := by kernel_rfl
theorem fail_all (code : Int) (waits : Bool) (deep : Nat) (h : deep ≤ 11) : failQ code waits deep = some (failE code waits deep, false) := by
  cases waits with
  | true =>
    match deep, h with
    | 0, _ => exact fail_true_0 code
    | 1, _ => exact fail_true_1 code
    | 2, _ => exact fail_true_2 code
    | 3, _ => exact fail_true_3 code
    | 4, _ => exact fail_true_4 code
    | 5, _ => exact fail_true_5 code
    | 6, _ => exact fail_true_6 code
    | 7, _ => exact fail_true_7 code
    | 8, _ => exact fail_true_8 code
    | 9, _ => exact fail_true_9 code
    | 10, _ => exact fail_true_10 code
    | 11, _ => exact fail_true_11 code
    | n + 12, h => omega
  | false =>
    match deep, h with
    | 0, _ => exact fail_false_0 code
    | 1, _ => exact fail_false_1 code
    | 2, _ => exact fail_false_2 code
    | 3, _ => exact fail_false_3 code
    | 4, _ => exact fail_false_4 code
    | 5, _ => exact fail_false_5 code
    | 6, _ => exact fail_false_6 code
    | 7, _ => exact fail_false_7 code
    | 8, _ => exact fail_false_8 code
    | 9, _ => exact fail_false_9 code
    | 10, _ => exact fail_false_10 code
    | 11, _ => exact fail_false_11 code
    | n + 12, h => omega
theorem fail_check (code : Int) (waits : Bool) : (checkL [⟨fnm, 1, 1, failC code waits⟩] 0 1 100 50).2.2 = 0 := by
  cases waits with
  | true => kernel_rfl
  | false => kernel_rfl
theorem fail_ev (code : Int) (waits : Bool) (deep : Nat) (h : deep ≤ 11) : ∃ E r, doE [⟨fnm, 1, 1, failC code waits⟩] 100 50 101 101 14 [] [] 0 [(deep : Int)] = some (E, false, r) ∧ E.length = deep + 1 ∧ ∀ i, i ≤ deep → ∃ x, E[i]? = some x ∧ x.id.length = i ∧ (if (waits || i == deep) = true then x.er = 25 ∧ x.ev = code else x.er = 0 ∧ x.ev = 0) := by
  have ha := fail_all code waits deep h
  unfold failQ at ha
  cases hq : doE [⟨fnm, 1, 1, failC code waits⟩] 100 50 101 101 14 [] [] 0 [(deep : Int)] with
  | none => rw [hq] at ha; cases ha
  | some q =>
    obtain ⟨E, ov, r⟩ := q
    rw [hq] at ha
    simp only [Option.map_some, Option.some.injEq, Prod.mk.injEq] at ha
    obtain ⟨h1, rfl⟩ := ha
    have hl : E.length = deep + 1 := by
      have := congrArg List.length h1
      simpa [failE] using this
    refine ⟨E, r, rfl, hl, fun i hi => ?_⟩
    have hx : E[i]? = some E[i] := List.getElem?_eq_getElem (by omega)
    have h2 : (E.map enF)[i]? = (failE code waits deep)[i]? := by rw [h1]
    rw [List.getElem?_map, hx] at h2
    simp only [failE, List.getElem?_map, List.getElem?_range (show i < deep + 1 by omega), Option.map_some, Option.some.injEq, enF] at h2
    refine ⟨_, hx, ?_, ?_⟩
    · split at h2 <;> (simp only [Prod.mk.injEq] at h2; exact h2.2.2)
    · split at h2
      · rename_i hc
        rw [if_pos hc]
        simp only [Prod.mk.injEq] at h2
        exact ⟨h2.1, h2.2.1⟩
      · rename_i hc
        rw [if_neg hc]
        simp only [Prod.mk.injEq] at h2
        exact ⟨h2.1, h2.2.1⟩
set_option linter.unusedSimpArgs false in
set_option maxRecDepth 100000 in
set_option maxHeartbeats 16000000 in
theorem fails_any (n code : Int) (waits : Bool) (w : World) (hE : Env w) : Calls Tryz.prog 4 #[.int .i64 n, .int .i64 code, .bool waits] w fun r w' => r = .returned (.bool true) ∧ Below w.heap.size w w' := by
  have CA := alive_any w hE
  by_cases g0 : n < 0
  · go_enter Tryz.func4, Tryz.ntmps4
    go_wp2_with (go_at_call 10; go_must (with_reducible refine CA.mono ?_; (rintro e w1 ⟨rfl, hb1⟩)))
    go_ret
    exact ⟨rfl, hb1⟩
  by_cases g1 : 11 < n
  · go_enter Tryz.func4, Tryz.ntmps4
    go_wp2_with (go_at_call 10; go_must (with_reducible refine CA.mono ?_; (rintro e w1 ⟨rfl, hb1⟩)))
    go_ret
    exact ⟨rfl, hb1⟩
  obtain ⟨m, rfl⟩ : ∃ m : Nat, n = (m : Int) := ⟨n.toNat, by omega⟩
  have hm : m ≤ 11 := by omega
  obtain ⟨E, r, hq, hlen, hall⟩ := fail_ev code waits m hm
  obtain ⟨r1, r2⟩ := r
  have HNE := hide (show E ≠ [] by rintro rfl; simp at hlen)
  have HQ := hide hq
  have HL := hide hlen
  have HALL := hide hall
  have TN := num_any
  clear hq hlen hall
  cases waits with
  | true =>
    go_enter Tryz.func4, Tryz.ntmps4
    go_wp2_with (go_at_call 10; go_must (with_reducible refine CA.mono ?_; (rintro e w1 ⟨rfl, hb1⟩); refine Hid.out ?_))
    refine Lib.hid ?_
    clear CA
    have hbA := alloc_below w1 (.cells #[.int .i64 5, .int .i64 0, .int .i64 15, .int .i64 8, .int .i64 5, .int .i64 0, .int .i64 1, .int .i64 1, .int .i64 8, .int .i64 0, .int .i64 16, .int .i64 0, .int .i64 17, .int .i64 0, .int .i64 18, .int .i64 0, .int .i64 1, .int .i64 code, .int .i64 19, .int .i64 0] 40)
    have hn0 := heap_alloc_new w1 (.cells #[.int .i64 5, .int .i64 0, .int .i64 15, .int .i64 8, .int .i64 5, .int .i64 0, .int .i64 1, .int .i64 1, .int .i64 8, .int .i64 0, .int .i64 16, .int .i64 0, .int .i64 17, .int .i64 0, .int .i64 18, .int .i64 0, .int .i64 1, .int .i64 code, .int .i64 19, .int .i64 0] 40)
    go_upto_region 5 with fail
    generalize w1.alloc (.cells #[.int .i64 5, .int .i64 0, .int .i64 15, .int .i64 8, .int .i64 5, .int .i64 0, .int .i64 1, .int .i64 1, .int .i64 8, .int .i64 0, .int .i64 16, .int .i64 0, .int .i64 17, .int .i64 0, .int .i64 18, .int .i64 0, .int .i64 1, .int .i64 code, .int .i64 19, .int .i64 0] 40) = w2 at *
    go_upto_region 8 with fail
    have hn1 : w2.heap[w1.heap.size]? = some (.cells (insV (failC code true)).toArray 40 (0, 0)) := hn0
    have hbB := hbA
    clear hn0 hbA
    obtain ⟨hb4, hsz, p2, p3, p4⟩ := three_blocks w2 (.cells #[.string ⟨#[102]⟩, .int .i64 1, .int .i64 1, .slice (some ⟨w1.heap.size, 0, none⟩) 10 10] 43) (.cells #[.int .i64 (m : Int)] 3) (.cells #[.slice (some ⟨w2.heap.size, 0, none⟩) 1 1, .int .i64 0, .slice (some ⟨w2.heap.size + 1, 0, none⟩) 1 1, .int .i64 100, .int .i64 50] 30)
    go_upto_region 9 with fail
    generalize (((w2.alloc (.cells #[.string ⟨#[102]⟩, .int .i64 1, .int .i64 1, .slice (some ⟨w1.heap.size, 0, none⟩) 10 10] 43)).alloc (.cells #[.int .i64 (m : Int)] 3)).alloc (.cells #[.slice (some ⟨w2.heap.size, 0, none⟩) 1 1, .int .i64 0, .slice (some ⟨w2.heap.size + 1, 0, none⟩) 1 1, .int .i64 100, .int .i64 50] 30)) = w5 at *
    have hr : Reads w5 (some ⟨w1.heap.size, 0, none⟩) (insV (failC code true)) := .inr ⟨w1.heap.size, 0, rfl, fun i u hu => by
      rw [Nat.zero_add]
      exact cell_row (cs := insV (failC code true)) (heap_row hn1 hb4) hu⟩
    have hra : Reads w5 (some ⟨w2.heap.size + 1, 0, none⟩) (iV [(m : Int)]) := .inr ⟨w2.heap.size + 1, 0, rfl, fun i u hu => by
      rw [Nat.zero_add]
      exact cell_row (cs := iV [(m : Int)]) p3 hu⟩
    have j0 : w5.cell? ⟨w2.heap.size + 1 + 1, 0, none⟩ = some (.slice (some ⟨w2.heap.size, 0, none⟩) 1 1) := by simp only [World.cell?, p4]; rfl
    have j1 : w5.cell? ⟨w2.heap.size + 1 + 1, 1, none⟩ = some (.int .i64 0) := by simp only [World.cell?, p4]; rfl
    have j2 : w5.cell? ⟨w2.heap.size + 1 + 1, 2, none⟩ = some (.slice (some ⟨w2.heap.size + 1, 0, none⟩) 1 1) := by simp only [World.cell?, p4]; rfl
    have j3 : w5.cell? ⟨w2.heap.size + 1 + 1, 3, none⟩ = some (.int .i64 100) := by simp only [World.cell?, p4]; rfl
    have j4 : w5.cell? ⟨w2.heap.size + 1 + 1, 4, none⟩ = some (.int .i64 50) := by simp only [World.cell?, p4]; rfl
    have hbw := chain (chain hb1 hbB) hb4
    have C11 : Calls Tryz.prog 11 #[.agg #[.slice (some ⟨w2.heap.size, 0, none⟩) 1 1, .int .i64 0, .slice (some ⟨w2.heap.size + 1, 0, none⟩) 1 1, .int .i64 100, .int .i64 50]] w5 (EvOk w5 E) := (eval_gen 1 1 100 50 (some ⟨w2.heap.size + 1, 0, none⟩) 1 1 [(m : Int)] p2 rfl hr rfl hra (fun h => by cases h) (hE.below hbw) (by decide) (fail_check code true) 101 101 14 _ HQ.out).mono fun e w' h => h.ok HNE.out
    unfold EvOk at C11
    have HB5 := hide hbw
    clear p2 p3 p4 hr hra hb1 hb4 hE hsz hbw hbB hn1
    go_wp2_with (go_at_call 11; go_must (with_reducible refine C11.mono ?_; (rintro e w6 ⟨g, ec, rfl, hat, hb6⟩); refine Hid.out ?_))
    refine Lib.hid ?_
    have HF := hide (chain HB5.out hb6)
    have HAT := hide hat
    clear C11 j0 j1 j2 j3 j4 hb6 HB5 hat
    obtain ⟨eL, heL⟩ : ∃ eL, eL = E.length := ⟨_, rfl⟩
    rw [← heL]
    have hlE : eL = m + 1 := by rw [heL]; exact HL.out
    subst hlE
    clear heL
    have wr : IntKind.i64.wrap ((m : Int) + 1) = (m : Int) + 1 := wrapi (by omega)
    have hle : (((m + 1 : Nat) : Int) != (m : Int) + 1) = false := by simp
    go_wp2_with (go_at_call 13; go_must (with_reducible refine (TN _ _).mono ?_; (rintro e w7 ⟨rfl, rfl⟩)))
    clear wr hle
    go_loopw [12] (fun i wr => wr = w7 ∧ ∃ k : Nat, k ≤ m + 1 ∧ i = .int .i64 (k : Int)) (fun i _ => m + 1 - (intOf i).toNat)
    case atStart => exact ⟨rfl, 0, by omega, rfl⟩
    case round =>
      obtain ⟨hwr, k, hk, rfl⟩ := hrel
      subst hwr
      by_cases hkm : k ≤ m
      · obtain ⟨x, hx, hid, hc⟩ := HALL.out k hkm
        have a := HAT.out k x hx
        have c0 := a.id
        have c3 := a.er
        have c4 := a.ev
        obtain ⟨S, hS⟩ : ∃ S, S = bs x.id := ⟨_, rfl⟩
        rw [← hS] at c0
        have hs : S.size = k := by rw [hS, bs_size, hid]
        have hk1 : (k : Int) ≤ (m : Int) := by omega
        have hkl : (k : Int) < ((m + 1 : Nat) : Int) := by omega
        have hcc : (code != code) = false := by simp
        have hkk : ((k : Int) != (k : Int)) = false := by simp
        have wr1 : IntKind.i64.wrap ((k : Int) + 1) = (k : Int) + 1 := wrapi (by omega)
        rw [if_pos (by simp)] at hc
        rw [hc.1] at c3
        rw [hc.2] at c4
        clear hS a hx hid hc hkm hk
        go_wp2_with (go_at_call 13; go_must (with_reducible refine (TN _ _).mono ?_; (rintro e wz ⟨rfl, hwz⟩; replace hwz := hwz.symm; subst hwz)))
        go_roundw
        case rel => exact ⟨by trivial, k + 1, by omega, by go_num⟩
        case measure => simp [intOf]; omega
      · have hk1 : ¬ (k : Int) ≤ (m : Int) := by omega
        go_wp2_with fail
        go_ret
        exact ⟨rfl, HF.out⟩
  | false =>
    go_enter Tryz.func4, Tryz.ntmps4
    go_wp2_with (go_at_call 10; go_must (with_reducible refine CA.mono ?_; (rintro e w1 ⟨rfl, hb1⟩); refine Hid.out ?_))
    refine Lib.hid ?_
    clear CA
    have hbA := alloc_below w1 (.cells #[.int .i64 5, .int .i64 0, .int .i64 15, .int .i64 8, .int .i64 5, .int .i64 0, .int .i64 1, .int .i64 1, .int .i64 8, .int .i64 0, .int .i64 16, .int .i64 0, .int .i64 17, .int .i64 0, .int .i64 18, .int .i64 0, .int .i64 1, .int .i64 code, .int .i64 19, .int .i64 0] 40)
    have hn0 := heap_alloc_new w1 (.cells #[.int .i64 5, .int .i64 0, .int .i64 15, .int .i64 8, .int .i64 5, .int .i64 0, .int .i64 1, .int .i64 1, .int .i64 8, .int .i64 0, .int .i64 16, .int .i64 0, .int .i64 17, .int .i64 0, .int .i64 18, .int .i64 0, .int .i64 1, .int .i64 code, .int .i64 19, .int .i64 0] 40)
    go_upto_region 5 with fail
    generalize w1.alloc (.cells #[.int .i64 5, .int .i64 0, .int .i64 15, .int .i64 8, .int .i64 5, .int .i64 0, .int .i64 1, .int .i64 1, .int .i64 8, .int .i64 0, .int .i64 16, .int .i64 0, .int .i64 17, .int .i64 0, .int .i64 18, .int .i64 0, .int .i64 1, .int .i64 code, .int .i64 19, .int .i64 0] 40) = w2 at *
    have z12 : w2.cell? ⟨w1.heap.size, 12, none⟩ = some (.int .i64 17) := by simp only [World.cell?, hn0]; rfl
    have y12 : w2.frozen? ⟨w1.heap.size, 12, none⟩ = false := by simp [World.frozen?, hn0]
    have z13 : w2.cell? ⟨w1.heap.size, 13, none⟩ = some (.int .i64 0) := by simp only [World.cell?, hn0]; rfl
    have y13 : w2.frozen? ⟨w1.heap.size, 13, none⟩ = false := by simp [World.frozen?, hn0]
    have z14 : w2.cell? ⟨w1.heap.size, 14, none⟩ = some (.int .i64 18) := by simp only [World.cell?, hn0]; rfl
    have y14 : w2.frozen? ⟨w1.heap.size, 14, none⟩ = false := by simp [World.frozen?, hn0]
    have z15 : w2.cell? ⟨w1.heap.size, 15, none⟩ = some (.int .i64 0) := by simp only [World.cell?, hn0]; rfl
    have y15 : w2.frozen? ⟨w1.heap.size, 15, none⟩ = false := by simp [World.frozen?, hn0]
    go_upto_region 8 with fail
    show Code.wp _ _ _ _ (w2.setCells w1.heap.size 12 [.int .i64 3, .int .i64 0, .int .i64 18, .int .i64 0])
    have hn1 : (w2.setCells w1.heap.size 12 [.int .i64 3, .int .i64 0, .int .i64 18, .int .i64 0]).heap[w1.heap.size]? = some (.cells (insV (failC code false)).toArray 40 (0, 0)) := setCells_many _ 12 w2 _ hn0
    have hbB : Below w1.heap.size w1 (w2.setCells w1.heap.size 12 [.int .i64 3, .int .i64 0, .int .i64 18, .int .i64 0]) := setCells_below (Nat.le_refl _) _ 12 hbA
    clear z12 z13 z14 z15 y12 y13 y14 y15
    generalize (w2.setCells w1.heap.size 12 [.int .i64 3, .int .i64 0, .int .i64 18, .int .i64 0]) = w3 at *
    clear hn0 hbA
    obtain ⟨hb4, hsz, p2, p3, p4⟩ := three_blocks w3 (.cells #[.string ⟨#[102]⟩, .int .i64 1, .int .i64 1, .slice (some ⟨w1.heap.size, 0, none⟩) 10 10] 43) (.cells #[.int .i64 (m : Int)] 3) (.cells #[.slice (some ⟨w3.heap.size, 0, none⟩) 1 1, .int .i64 0, .slice (some ⟨w3.heap.size + 1, 0, none⟩) 1 1, .int .i64 100, .int .i64 50] 30)
    go_upto_region 9 with fail
    generalize (((w3.alloc (.cells #[.string ⟨#[102]⟩, .int .i64 1, .int .i64 1, .slice (some ⟨w1.heap.size, 0, none⟩) 10 10] 43)).alloc (.cells #[.int .i64 (m : Int)] 3)).alloc (.cells #[.slice (some ⟨w3.heap.size, 0, none⟩) 1 1, .int .i64 0, .slice (some ⟨w3.heap.size + 1, 0, none⟩) 1 1, .int .i64 100, .int .i64 50] 30)) = w5 at *
    have hr : Reads w5 (some ⟨w1.heap.size, 0, none⟩) (insV (failC code false)) := .inr ⟨w1.heap.size, 0, rfl, fun i u hu => by
      rw [Nat.zero_add]
      exact cell_row (cs := insV (failC code false)) (heap_row hn1 hb4) hu⟩
    have hra : Reads w5 (some ⟨w3.heap.size + 1, 0, none⟩) (iV [(m : Int)]) := .inr ⟨w3.heap.size + 1, 0, rfl, fun i u hu => by
      rw [Nat.zero_add]
      exact cell_row (cs := iV [(m : Int)]) p3 hu⟩
    have j0 : w5.cell? ⟨w3.heap.size + 1 + 1, 0, none⟩ = some (.slice (some ⟨w3.heap.size, 0, none⟩) 1 1) := by simp only [World.cell?, p4]; rfl
    have j1 : w5.cell? ⟨w3.heap.size + 1 + 1, 1, none⟩ = some (.int .i64 0) := by simp only [World.cell?, p4]; rfl
    have j2 : w5.cell? ⟨w3.heap.size + 1 + 1, 2, none⟩ = some (.slice (some ⟨w3.heap.size + 1, 0, none⟩) 1 1) := by simp only [World.cell?, p4]; rfl
    have j3 : w5.cell? ⟨w3.heap.size + 1 + 1, 3, none⟩ = some (.int .i64 100) := by simp only [World.cell?, p4]; rfl
    have j4 : w5.cell? ⟨w3.heap.size + 1 + 1, 4, none⟩ = some (.int .i64 50) := by simp only [World.cell?, p4]; rfl
    have hbw := chain (chain hb1 hbB) hb4
    have C11 : Calls Tryz.prog 11 #[.agg #[.slice (some ⟨w3.heap.size, 0, none⟩) 1 1, .int .i64 0, .slice (some ⟨w3.heap.size + 1, 0, none⟩) 1 1, .int .i64 100, .int .i64 50]] w5 (EvOk w5 E) := (eval_gen 1 1 100 50 (some ⟨w3.heap.size + 1, 0, none⟩) 1 1 [(m : Int)] p2 rfl hr rfl hra (fun h => by cases h) (hE.below hbw) (by decide) (fail_check code false) 101 101 14 _ HQ.out).mono fun e w' h => h.ok HNE.out
    unfold EvOk at C11
    have HB5 := hide hbw
    clear p2 p3 p4 hr hra hb1 hb4 hE hsz hbw hbB hn1
    go_wp2_with (go_at_call 11; go_must (with_reducible refine C11.mono ?_; (rintro e w6 ⟨g, ec, rfl, hat, hb6⟩); refine Hid.out ?_))
    refine Lib.hid ?_
    have HF := hide (chain HB5.out hb6)
    have HAT := hide hat
    clear C11 j0 j1 j2 j3 j4 hb6 HB5 hat
    obtain ⟨eL, heL⟩ : ∃ eL, eL = E.length := ⟨_, rfl⟩
    rw [← heL]
    have hlE : eL = m + 1 := by rw [heL]; exact HL.out
    subst hlE
    clear heL
    have wr : IntKind.i64.wrap ((m : Int) + 1) = (m : Int) + 1 := wrapi (by omega)
    have hle : (((m + 1 : Nat) : Int) != (m : Int) + 1) = false := by simp
    go_wp2_with (go_at_call 13; go_must (with_reducible refine (TN _ _).mono ?_; (rintro e w7 ⟨rfl, rfl⟩)))
    clear wr hle
    go_loopw [12] (fun i wr => wr = w7 ∧ ∃ k : Nat, k ≤ m + 1 ∧ i = .int .i64 (k : Int)) (fun i _ => m + 1 - (intOf i).toNat)
    case atStart => exact ⟨rfl, 0, by omega, rfl⟩
    case round =>
      obtain ⟨hwr, k, hk, rfl⟩ := hrel
      subst hwr
      by_cases hkm : k ≤ m
      · obtain ⟨x, hx, hid, hc⟩ := HALL.out k hkm
        have a := HAT.out k x hx
        have c0 := a.id
        have c3 := a.er
        have c4 := a.ev
        obtain ⟨S, hS⟩ : ∃ S, S = bs x.id := ⟨_, rfl⟩
        rw [← hS] at c0
        have hs : S.size = k := by rw [hS, bs_size, hid]
        have hk1 : (k : Int) ≤ (m : Int) := by omega
        have hkl : (k : Int) < ((m + 1 : Nat) : Int) := by omega
        have hcc : (code != code) = false := by simp
        have hkk : ((k : Int) != (k : Int)) = false := by simp
        have wr1 : IntKind.i64.wrap ((k : Int) + 1) = (k : Int) + 1 := wrapi (by omega)
        by_cases hkd : k = m
        · rw [if_pos (by simp [hkd])] at hc
          rw [hc.1] at c3
          rw [hc.2] at c4
          have hki : ((k : Int) == (m : Int)) = true := by simp [hkd]
          clear hkd
          clear hS a hx hid hc hkm hk
          go_wp2_with (go_at_call 13; go_must (with_reducible refine (TN _ _).mono ?_; (rintro e wz ⟨rfl, hwz⟩; replace hwz := hwz.symm; subst hwz)))
          go_roundw
          case rel => exact ⟨by trivial, k + 1, by omega, by go_num⟩
          case measure => simp [intOf]; omega
        · rw [if_neg (by simp [hkd])] at hc
          rw [hc.1] at c3
          rw [hc.2] at c4
          have hki : ((k : Int) == (m : Int)) = false := by simp; omega
          clear hkd
          clear hS a hx hid hc hkm hk
          go_wp2_with (go_at_call 13; go_must (with_reducible refine (TN _ _).mono ?_; (rintro e wz ⟨rfl, hwz⟩; replace hwz := hwz.symm; subst hwz)))
          go_roundw
          case rel => exact ⟨by trivial, k + 1, by omega, by go_num⟩
          case measure => simp [intOf]; omega
      · have hk1 : ¬ (k : Int) ≤ (m : Int) := by omega
        go_wp2_with fail
        go_ret
        exact ⟨rfl, HF.out⟩
end Go.Proofs.YtbpcibnomkfglaaGreatDoor
