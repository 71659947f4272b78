/- instruction: a line's words as an instruction. -/
import Derived.Test.YtfnloomcianbiaaGreatDoorNums
namespace Go.Proofs.YtfnloomcianbiaaGreatDoor
open Go.RowKit Go.ChangeShapes Go.WideShapes Go.ChangeAt Go.Deep

/-- The number of a word. -/
def opOf (s : ByteArray) : Option Nat := (List.range 20).find? fun k => decide (1 ≤ k) && ((kindOf (k : Int)).word.toList == s.toList)

theorem opOf_is {s : ByteArray} {k : Int} {ok : Bool} (h : OpIs s k ok) : (ok = true ∧ ∃ j : Nat, k = (j : Int) ∧ 1 ≤ j ∧ j ≤ 19 ∧ opOf s = some j) ∨ (ok = false ∧ opOf s = none) := by
  rcases h with ⟨rfl, ⟨h1, h2⟩, h3, h4⟩ | ⟨rfl, rfl, h⟩
  · obtain ⟨j, rfl⟩ : ∃ j : Nat, k = (j : Int) := ⟨k.toNat, by omega⟩
    refine .inl ⟨rfl, j, rfl, by omega, by omega, ?_⟩
    unfold opOf
    rw [List.find?_eq_some_iff_getElem]
    refine ⟨by simp [h3]; omega, j, by simp; omega, by simp, fun i hi => ?_⟩
    simp only [List.getElem_range]
    by_cases hi1 : 1 ≤ i
    · have := h4 (i : Int) (by omega) (by omega)
      simp [this]
    · simp [hi1]
  · refine .inr ⟨rfl, ?_⟩
    unfold opOf
    rw [List.find?_eq_none]
    intro x hx
    have hx' : x < 20 := by simpa using hx
    by_cases hi1 : 1 ≤ x
    · have := h (x : Int) (by omega) (by omega)
      simp [this]
    · simp [hi1]

def oneName : List ByteArray → Bool
  | [n] => isNameL n.data.toList
  | _ => false
def oneNum : Option (List Int) → Option Int
  | some [n] => some n
  | _ => none
/-- An instruction's words; a spawn's function is not known yet. -/
def insL (word : ByteArray) (behind : List ByteArray) : Option (Int × Int) :=
  match opOf word with
  | none => none
  | some op =>
    if op = 16 then (if oneName behind = true then some ((op : Int), 0) else none)
    else if (kindOf (op : Int)).hasN = false then (if behind = [] then some ((op : Int), 0) else none)
    else (oneNum (numsL behind)).map fun n => ((op : Int), n)

theorem alloc_below (w : World) (o : Obj) : Below w.heap.size w (w.alloc o) := (Below.refl _ _).alloc (Nat.le_refl _) _

/-- A struct of two cells of one's own, untouched. -/
def Box2 (w : World) (b : Nat) (x y : Value) : Prop := w.heap[b]? = some (.cells #[x, y] 42 (0, 0))
theorem Box2.keep {w w' : World} {b : Nat} {x y : Value} (h : Box2 w b x y) (hb : Below w.heap.size w w') : Box2 w' b x y := by
  unfold Box2 at *
  rw [hb.block b (Array.getElem?_eq_some_iff.1 h).1]
  exact h
theorem Box2.facts {w : World} {b : Nat} {x y : Value} (h : Box2 w b x y) : b < w.heap.size ∧ w.cell? ⟨b, 0, none⟩ = some x ∧ w.cell? ⟨b, 1, none⟩ = some y ∧ w.frozen? ⟨b, 0, none⟩ = false ∧ w.frozen? ⟨b, 1, none⟩ = false := by
  unfold Box2 at h
  refine ⟨(Array.getElem?_eq_some_iff.1 h).1, ?_, ?_, ?_, ?_⟩ <;> simp [World.cell?, World.frozen?, h]

theorem Box2.set {w : World} {b : Nat} {x y : Value} (h : Box2 w b x y) (x' y' : Value) : Box2 ((w.setCell ⟨b, 0, none⟩ x').setCell ⟨b, 1, none⟩ y') b x' y' := by
  unfold Box2 at *
  rw [heap_setCell_same _ b 1 #[x', y] 42 y' (by rw [heap_setCell_same _ b 0 #[x, y] 42 x' h]; rfl)]
  rfl

set_option maxRecDepth 100000 in
set_option maxHeartbeats 2000000 in
theorem ins_any (word : ByteArray) (ws : List ByteArray) (a : Option Addr) (cap n : Nat) (hn : ws.length = n) (hbig : n ≤ 1000000000) (hsz : ∀ s ∈ ws, s.size < 4294967281) (w : World) (hr : Reads w a (ws.map Value.string)) (hE : Env w) :
    Calls Tryz.prog 52 #[.string word, .slice a n cap] w fun e w' => ∃ op x ok, e = .returned (.tuple #[.agg #[.int .i64 op, .int .i64 x], .bool ok]) ∧ ((ok = true ∧ insL word ws = some (op, x)) ∨ (ok = false ∧ insL word ws = none)) ∧ Below w.heap.size w w' := by
  have hb0 := alloc_below w (.cells #[.int .i64 0, .int .i64 0] 42)
  have hE0 := hE.below hb0
  have hr0 := hr.below hb0
  have C1 := op_any word _ hE0.tab
  go_enter Tryz.func52, Tryz.ntmps52
  go_wp2_with (go_at_call 66; go_must (refine C1.mono ?_; rintro e wz ⟨k, ok, rfl, hk, wz⟩; subst wz; refine Hid.out ?_))
  refine Lib.hid ?_
  rcases opOf_is hk with ⟨rfl, j, rfl, hj1, hj2, hop⟩ | ⟨rfl, hop⟩
  · have hbx : Box2 (w.alloc (.cells #[.int .i64 0, .int .i64 0] 42)) w.heap.size (.int .i64 0) (.int .i64 0) := by unfold Box2; exact heap_alloc_new w _
    by_cases h16 : j = 16
    · subst h16
      have HI := hide (show insL word ws = if oneName ws = true then some (16, 0) else none from by unfold insL; rw [hop]; simp)
      clear hop C1 hk
      by_cases h1 : n = 1
      · subst h1
        obtain ⟨s, rfl⟩ : ∃ s, ws = [s] := by
          match ws, hn with
          | [s], _ => exact ⟨s, rfl⟩
        obtain ⟨b, off, rfl, hcs⟩ := str_at (k := 0) hr0 (by simp)
        have hc0 := hcs 0 (by simp)
        simp only [Nat.add_zero, List.getElem_cons_zero] at hc0
        have C2 := fun w => isName_any s (hsz s (by simp)) w
        have HI2 := hide (show insL word [s] = if isNameL s.data.toList = true then some (16, 0) else none from HI.out)
        generalize isNameL s.data.toList = q at C2 HI2
        clear hcs HI
        go_wp2_with (go_at_call 42; go_must (refine (C2 _).mono ?_; rintro e wz ⟨rfl, wz⟩; subst wz))
        refine bodyPost_ret (v := .tuple #[.agg #[.int .i64 16, .int .i64 0], .bool q]) (by simp [results, Tryz.results52, go_sem]) rfl ⟨_, _, _, rfl, ?_, ?_⟩
        · cases q
          · exact .inr ⟨rfl, HI2.out⟩
          · exact .inl ⟨rfl, HI2.out⟩
        · exact (alloc_below w _)
      · have h1' : ¬ (n : Int) = 1 := by omega
        go_wp2
        refine bodyPost_ret (v := .tuple #[.agg #[.int .i64 16, .int .i64 0], .bool false]) (by simp [results, Tryz.results52, go_sem]) rfl ⟨_, _, _, rfl, .inr ⟨rfl, ?_⟩, alloc_below w _⟩
        rw [HI.out]
        have : oneName ws = false := by
          cases ws with
          | nil => rfl
          | cons s r => cases r with
            | nil => exact absurd hn.symm h1
            | cons _ _ => rfl
        rw [this]; rfl
    · have h16' : ¬ (j : Int) = 16 := by omega
      have C2 := fun w hT => hasN_any (j : Int) w hT
      have HI := hide (show insL word ws = if (kindOf (j : Int)).hasN = false then (if ws = [] then some ((j : Int), 0) else none) else (oneNum (numsL ws)).map fun n => ((j : Int), n) from by unfold insL; rw [hop]; simp only [h16, if_false])
      generalize (kindOf (j : Int)).hasN = q at C2 HI
      clear hop C1 hk
      cases q with
      | false =>
        have HI := hide (show insL word ws = if ws = [] then some ((j : Int), 0) else none from HI.out)
        go_wp2_with (go_at_call 47; go_must (refine (C2 _ hE0.tab).mono ?_; rintro e w1 ⟨rfl, hb1⟩; obtain ⟨z0, z1, z2, z3, z4⟩ := (hbx.keep hb1).facts))
        refine bodyPost_ret (v := .tuple #[.agg #[.int .i64 j, .int .i64 0], .bool ((n : Int) == 0)]) (by obtain ⟨y0, y1, y2, y3, y4⟩ := ((hbx.keep hb1).set (.int .i64 j) (.int .i64 0)).facts; simp [results, Tryz.results52, go_sem, y1, y2]) rfl ⟨_, _, _, rfl, ?_, ?_⟩
        · cases ws with
          | nil => exact .inl ⟨by rw [← hn]; rfl, HI.out⟩
          | cons s r => exact .inr ⟨by rw [← hn]; rfl, HI.out⟩
        · exact ((hb0.trans (hb1.mono hb0.size)).setCell (p := ⟨w.heap.size, 0, none⟩) (Nat.le_refl _) _).setCell (p := ⟨w.heap.size, 1, none⟩) (Nat.le_refl _) _
      | true =>
        have HI := hide (show insL word ws = (oneNum (numsL ws)).map fun n => ((j : Int), n) from HI.out)
        go_wp2_with (first
          | (go_at_call 47; go_must (refine (C2 _ hE0.tab).mono ?_; rintro e w1 ⟨rfl, hb1⟩; have hbx1 := hbx.keep hb1; have C3 := nums_any ws a cap n hn hbig (fun s hs => by have := hsz s hs; omega) w1 (hr0.below hb1) (hE0.below hb1)))
          | (go_at_call 50; go_must (refine C3.mono ?_; rintro e w2 ⟨v, ok, vs, rfl, hN, ho, hb2⟩; refine Hid.out ?_)))
        refine Lib.hid ?_
        obtain ⟨va, vc, rfl, hvc⟩ : ∃ va vc, v = .slice va vs.length vc ∧ (vs.length = 1 → ∃ g, va = some ⟨g, 0, none⟩) := by
          rcases ho.2 with ⟨rfl, e⟩ | ⟨g, cap, cur, rfl, _⟩
          · exact ⟨none, 0, by rw [e], fun h => by omega⟩
          · exact ⟨_, cap, rfl, fun _ => ⟨g, rfl⟩⟩
        have hbx2 := hbx1.keep hb2
        have hB2 : Below w.heap.size w w2 := (hb0.trans (hb1.mono hb0.size)).trans (hb2.mono (by have := hb0.size; have := hb1.size; omega))
        obtain ⟨z0, z1, z2, z3, z4⟩ := hbx2.facts
        clear C2 C3 hb1 hb2 hbx hbx1 hr hr0 hE hE0 hb0
        by_cases hg : ok = true ∧ vs.length = 1
        · obtain ⟨rfl, hvl⟩ := hg
          obtain ⟨x, rfl⟩ : ∃ x, vs = [x] := by
            match vs, hvl with
            | [x], _ => exact ⟨x, rfl⟩
          obtain ⟨g, rfl⟩ := hvc rfl
          have hcx : w2.cell? ⟨g, 0, none⟩ = some (.int .i64 x) := by
            have := ho.cells (g := g) rfl 0 (.int .i64 x) rfl
            rwa [add_none] at this
          have hI2 : insL word ws = some ((j : Int), x) := by
            rw [HI.out]
            rcases hN with ⟨_, h⟩ | ⟨h, _⟩
            · rw [h]; rfl
            · cases h
          clear hN ho HI hvc
          go_wp2
          refine bodyPost_ret (v := .tuple #[.agg #[.int .i64 j, .int .i64 x], .bool true]) (by obtain ⟨y0, y1, y2, y3, y4⟩ := (hbx2.set (.int .i64 j) (.int .i64 x)).facts; simp [results, Tryz.results52, go_sem, y1, y2]) rfl ⟨_, _, _, rfl, .inl ⟨rfl, hI2⟩, ?_⟩
          exact (hB2.setCell (p := ⟨w.heap.size, 0, none⟩) (Nat.le_refl _) _).setCell (p := ⟨w.heap.size, 1, none⟩) (Nat.le_refl _) _
        · have hI2 : insL word ws = none := by
            rw [HI.out]
            rcases hN with ⟨h0, h⟩ | ⟨_, h, _⟩
            · have : oneNum (numsL ws) = none := by
                rw [h]
                match vs with
                | [] => rfl
                | [x] => exact absurd ⟨h0, rfl⟩ hg
                | _ :: _ :: _ => rfl
              rw [this]; rfl
            · rw [h]; rfl
          obtain ⟨m, hm⟩ : ∃ m, m = vs.length := ⟨_, rfl⟩
          rw [← hm] at hg ⊢
          clear hN ho HI hvc hm
          cases ok with
          | false =>
            go_wp2
            refine bodyPost_ret (v := .tuple #[.agg #[.int .i64 0, .int .i64 0], .bool false]) (by obtain ⟨y0, y1, y2, y3, y4⟩ := (hbx2.set (.int .i64 0) (.int .i64 0)).facts; simp [results, Tryz.results52, go_sem, y1, y2]) rfl ⟨_, _, _, rfl, .inr ⟨rfl, hI2⟩, ?_⟩
            exact (hB2.setCell (p := ⟨w.heap.size, 0, none⟩) (Nat.le_refl _) _).setCell (p := ⟨w.heap.size, 1, none⟩) (Nat.le_refl _) _
          | true =>
            have hm1 : ¬ (m : Int) = 1 := fun h => hg ⟨rfl, by omega⟩
            clear hg
            go_wp2
            refine bodyPost_ret (v := .tuple #[.agg #[.int .i64 0, .int .i64 0], .bool false]) (by obtain ⟨y0, y1, y2, y3, y4⟩ := (hbx2.set (.int .i64 0) (.int .i64 0)).facts; simp [results, Tryz.results52, go_sem, y1, y2]) rfl ⟨_, _, _, rfl, .inr ⟨rfl, hI2⟩, ?_⟩
            exact (hB2.setCell (p := ⟨w.heap.size, 0, none⟩) (Nat.le_refl _) _).setCell (p := ⟨w.heap.size, 1, none⟩) (Nat.le_refl _) _
  · go_wp2
    refine bodyPost_ret (v := .tuple #[.agg #[.int .i64 0, .int .i64 0], .bool false]) (by simp [results, Tryz.results52, go_sem]) rfl ⟨_, _, _, rfl, .inr ⟨rfl, by unfold insL; rw [hop]⟩, alloc_below w _⟩
end Go.Proofs.YtfnloomcianbiaaGreatDoor
