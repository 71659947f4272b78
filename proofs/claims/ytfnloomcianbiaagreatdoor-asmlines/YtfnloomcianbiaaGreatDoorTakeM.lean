/- takeMain. -/
import Derived.Test.YtfnloomcianbiaaGreatDoorTakeJ
namespace Go.Proofs.YtfnloomcianbiaaGreatDoor
open Go.RowKit Go.ChangeShapes Go.WideShapes Go.ChangeAt Go.Deep

theorem cells_new (w : World) (l : List Value) (t : TypeId) : ∀ j u, l[j]? = some u → (w.alloc (.cells l.toArray t)).cell? ((⟨w.heap.size, 0, none⟩ : Addr).add j) = some u := by
  intro j u hu
  rw [add_none, Nat.zero_add]
  exact cell_row (cs := l) (heap_alloc_new w _) hu

theorem tag_ne {w : World} {b t e : Nat} {cs cur : Array Value} (h : w.heap[b]? = some (.cells cs t (0, 0))) (hne : t ≠ e) : w.heap[b]? ≠ some (.cells cur e (0, 0)) := fun h' => by
  rw [h] at h'
  injection h' with e1
  injection e1 with _ e2 _
  exact hne e2

/-- A block that bears another type than a row stays where the row grows. -/
theorem grown_heap {w w' : World} {B b t e k n : Nat} {v : Value} {xs : List Value} {cs : Array Value} (hg : w.grownBy w' v.ownBlock) (ho : w.ownsRow B e k v n xs) (hc : w.heap[b]? = some (.cells cs t (0, 0))) (hne : t ≠ e) : w'.heap[b]? = some (.cells cs t (0, 0)) := by
  rw [hg.block b (lt_row hc) (fun hq => ?_)]
  · exact hc
  · obtain ⟨cur, hcur⟩ := own_tag ho hq.symm
    exact tag_ne hc hne hcur

theorem Tryz.info78 : (Tryz.prog.info? 78).map (fun i => (i.zero, i.size, i.bytes)) = some (some (.agg #[.string ⟨#[]⟩, .int .i64 0, .int .i64 0, .int .i64 0]), 4, 40) := by kernel_rfl

/-- The reader's row of uses grows. -/
theorem Rd.use {B : Nat} {w w1 w2 : World} {b : Nat} {fv av uv uv2 : Value} {cs : List Value} {st : St} (h : Rd B w b fv av uv cs st) (u : Use) (hb : Below w.heap.size w w1) (hB : B ≤ w.heap.size)
    (ho : w2.ownsRow B 78 4 uv2 (st.uses.length + 1) (useV st.uses ++ u.enc)) (hg : w1.grownBy w2 uv.ownBlock) :
    Rd B (w2.setCell ⟨b, 7, none⟩ uv2) b fv av uv2 cs { st with uses := st.uses ++ [u] } ∧ Below B w (w2.setCell ⟨b, 7, none⟩ uv2) := by
  have h1 := h.keep hb
  have hs2 := grown_heap hg h1.uses h1.self (by decide)
  have hs3 := set_row (i := 7) hs2 uv2
  have hg3 := grown_setCell w2 b 7 uv2
  have f : ∀ {e k n : Nat} {v : Value} {xs : List Value}, w1.ownsRow B e k v n xs → e ≠ 78 → e ≠ 54 → (w2.setCell ⟨b, 7, none⟩ uv2).ownsRow B e k v n xs := fun ho he he' =>
    own_far (own_apart ho h1.uses he hg) hg3 (fun cur => tag_ne hs2 (Ne.symm he'))
  refine ⟨⟨h.nine, h.le, hs3, h.len, f h1.fns (by decide) (by decide), fun i hi hi' => f (h1.codes i hi hi') (by decide) (by decide), h.apart, f h1.args (by decide) (by decide), ?_⟩, ?_⟩
  · have := own_far ho hg3 (fun cur => tag_ne hs2 (by decide))
    simpa [useV] using this
  · exact ((hb.mono hB).grown hg (Nat.le_trans hB hb.size) (fun k hk => (h1.uses.lt k hk).1)).setCell (p := ⟨b, 7, none⟩) h.le _

/-- The second line's words: the name, the arguments. -/
def mainL (ws : List ByteArray) : Option (ByteArray × List Int) :=
  match ws with
  | s :: nm :: r => if isWord s [109, 97, 105, 110] && isNameL nm.data.toList then (match numsL r with | some vs => if vs.length ≤ 8 then some (nm, vs) else none | none => none) else none
  | _ => none

theorem own_any {w : World} {B e k n : Nat} {v : Value} {xs : List Value} (ho : w.ownsRow B e k v n xs) : ∃ va vc, v = .slice va n vc := by
  rcases ho.2 with ⟨rfl, e⟩ | ⟨g, cap, cur, rfl, _⟩
  · exact ⟨none, 0, by rw [e]⟩
  · exact ⟨_, cap, rfl⟩
theorem own_low {w : World} {B B' e k n : Nat} {v : Value} {xs : List Value} (h : w.ownsRow B e k v n xs) (hB : B' ≤ B) : w.ownsRow B' e k v n xs := by
  refine ⟨h.1, ?_⟩
  rcases h.2 with h | ⟨g, cap, cur, h1, h2, h3⟩
  · exact .inl h
  · exact .inr ⟨g, cap, cur, h1, Nat.le_trans hB h2, h3⟩

theorem words_reads {w : World} {g : Nat} {ws : List ByteArray} (h : w.heap[g]? = some (.cells (ws.map Value.string).toArray 9 (0, 0))) : Reads w (some ⟨g, 0, none⟩) (ws.map Value.string) :=
  .inr ⟨g, 0, rfl, fun j u hu => by rw [Nat.zero_add]; exact cell_row h hu⟩

/-- The arguments of the job are laid. -/
theorem Rd.setArgs {B : Nat} {w : World} {b : Nat} {fv av uv v : Value} {cs : List Value} {st : St} (h : Rd B w b fv av uv cs st) (vs : List Int) (ho : w.ownsRow B 3 1 v vs.length (iV vs)) : Rd B (w.setCell ⟨b, 4, none⟩ v) b fv v uv cs { st with args := vs } := by
  have hs := set_row (i := 4) h.self v
  have hg := grown_setCell w b 4 v
  have f : ∀ {e k n : Nat} {v' : Value} {xs : List Value}, w.ownsRow B e k v' n xs → e ≠ 54 → (w.setCell ⟨b, 4, none⟩ v).ownsRow B e k v' n xs := fun ho he => own_far ho hg (fun cur => tag_ne h.self (Ne.symm he))
  exact ⟨h.nine, h.le, hs, h.len, f h.fns (by decide), fun i hi hi' => f (h.codes i hi hi') (by decide), h.apart, f ho (by decide), f h.uses (by decide)⟩

def MainPost (B b : Nat) (fv : Value) (cs : List Value) (st : St) (ws : List ByteArray) (w : World) (e : Ending) (w' : World) : Prop :=
  ∃ ok, e = .returned (.bool ok) ∧ Below B w w' ∧
      ((ok = true ∧ ∃ nm vs av' uv', mainL ws = some (nm, vs) ∧ Rd B w' b fv av' uv' cs { st with args := vs, uses := st.uses ++ [⟨nm, st.line, -1, 0⟩] }) ∨ (ok = false ∧ mainL ws = none ∧ Below w.heap.size w w'))

theorem cell_grown' {w0 w w' : World} {B b i t e k n : Nat} {v u : Value} {xs : List Value} {cs : Array Value} (hb0 : Below w0.heap.size w0 w) (hg : w.grownBy w' v.ownBlock) (ho : w0.ownsRow B e k v n xs) (hc : w0.cell? ⟨b, i, none⟩ = some u) (hb : w0.heap[b]? = some (.cells cs t (0, 0))) (hne : t ≠ e) : w'.cell? ⟨b, i, none⟩ = some u := by
  have h1 : w.heap[b]? = some (.cells cs t (0, 0)) := by rw [hb0.block b (lt_row hb)]; exact hb
  have := grown_heap hg (own_keep ho hb0) h1 hne
  rw [← hc]
  exact World.cell?_of_block (by rw [this, hb])

set_option maxRecDepth 100000 in
set_option maxHeartbeats 4000000 in
set_option linter.unusedSimpArgs false in
theorem takeMain_any (B b : Nat) (fv av uv : Value) (cs : List Value) (st : St) (ws : List ByteArray) (g n : Nat) (hn : ws.length = n) (hbig : n ≤ 1000000) (hub : st.uses.length ≤ 1000000) (hsz : ∀ s ∈ ws, s.size < 4294967281) (w : World) (hE : Env w) (hB : B ≤ w.heap.size) (hR : Rd B w b fv av uv cs st)
    (hw : w.heap[g]? = some (.cells (ws.map Value.string).toArray 9 (0, 0))) :
    Calls Tryz.prog 32 #[.pointer (some ⟨b, 0, none⟩), .slice (some ⟨g, 0, none⟩) n n] w (MainPost B b fv cs st ws w) := by
  have hr := words_reads hw
  by_cases h2 : n < 2
  · have hM : Hid (mainL ws = none) := by
      refine Lib.hid ?_
      match ws, hn with
      | [], _ => rfl
      | [_], _ => rfl
      | _ :: _ :: _, hn => simp at hn; omega
    have h2' : (n : Int) < 2 := by omega
    go_enter Tryz.func32, Tryz.ntmps32
    go_wp2
    go_ret
    unfold MainPost
    exact ⟨_, rfl, Below.refl _ _, .inr ⟨rfl, hM.out, Below.refl _ _⟩⟩
  · obtain ⟨s, nm, r, rfl⟩ : ∃ s nm r, ws = s :: nm :: r := by
      match ws, hn with
      | [], hn => simp at hn; omega
      | [_], hn => simp at hn; omega
      | s :: nm :: r, _ => exact ⟨s, nm, r, rfl⟩
    have h2' : ¬ (n : Int) < 2 := by omega
    obtain ⟨m, rfl⟩ : ∃ m, n = m + 2 := ⟨n - 2, by omega⟩
    replace h2' : ¬ ((m : Int) + 2 < 2) := by omega
    have hrn : r.length = m := by simpa using hn
    have c0 := cell_row (i := 0) hw rfl
    have c1 := cell_row (i := 1) hw rfl
    have CN := fun w => isName_any nm (hsz nm (by simp)) w
    have hr1 : Reads w (some ⟨g, 2, none⟩) (r.map Value.string) := by
      have := reads_drop (k := 2) hr
      simpa using this
    have C := fun (a : Option Addr) (ha : a = some ⟨g, 2, none⟩ ∨ m = 0) => nums_any r a m m hrn (by omega) (fun x hx => by have := hsz x (by simp [hx]); omega) w (by
      rcases ha with rfl | rfl
      · exact hr1
      · exact .inl (by rw [List.eq_nil_of_length_eq_zero hrn]; rfl)) hE
    have HM := hide (show mainL (s :: nm :: r) = if isWord s [109, 97, 105, 110] && isNameL nm.data.toList then (match numsL r with | some vs => if vs.length ≤ 8 then some (nm, vs) else none | none => none) else none from rfl)
    have HW := hide hw
    clear hr hr1 hsz hw
    generalize isNameL nm.data.toList = qn at CN HM
    unfold isWord at HM
    cases hd : (s.toList == [109, 97, 105, 110]) with
    | false =>
      rw [hd] at HM
      have hM : Hid (mainL (s :: nm :: r) = none) := HM.out
      clear HM
      go_enter Tryz.func32, Tryz.ntmps32
      go_wp2
      go_ret
      unfold MainPost
      exact ⟨_, rfl, Below.refl _ _, .inr ⟨rfl, hM.out, Below.refl _ _⟩⟩
    | true =>
      rw [hd] at HM
      cases qn with
      | false =>
        have hM : Hid (mainL (s :: nm :: r) = none) := HM.out
        clear HM
        go_enter Tryz.func32, Tryz.ntmps32
        go_wp2_with (go_at_call 42; go_must (refine (CN _).mono ?_; rintro e wz ⟨rfl, hwz⟩; replace hwz := hwz.symm; subst hwz))
        go_ret
        unfold MainPost
        exact ⟨_, rfl, Below.refl _ _, .inr ⟨rfl, hM.out, Below.refl _ _⟩⟩
      | true =>
        have HM := hide (show mainL (s :: nm :: r) = (match numsL r with | some vs => if vs.length ≤ 8 then some (nm, vs) else none | none => none) from HM.out)
        rcases Nat.eq_zero_or_pos m with hn0 | hn0
        all_goals
          first
            | subst hn0
            | (have hn1 : ¬ (m = 0) := by omega)
          go_enter Tryz.func32, Tryz.ntmps32
          go_wp2_with (first
            | (go_at_call 42; go_must (refine (CN _).mono ?_; rintro e wz ⟨rfl, hwz⟩; replace hwz := hwz.symm; subst hwz))
            | (go_at_call 50; go_must (refine (C _ (by simp)).mono ?_; rintro e w1 ⟨v, ok, vs, rfl, hN, ho, hb1⟩; refine Hid.out ?_)))
          refine Lib.hid ?_
          have hR1 := hR.keep hb1
          have hB1 := (hb1.mono hB : Below B w w1)
          have k1 := keep_cell c1 hb1
          have hs1 := hb1.size
          obtain ⟨va, vc, rfl⟩ := own_any ho
          cases ok with
          | false =>
            have hM : Hid (mainL (s :: nm :: r) = none) := by
              refine Lib.hid ?_
              rw [HM.out]
              rcases hN with ⟨h, _⟩ | ⟨_, h, _⟩
              · cases h
              · rw [h]
            clear hN HM C
            go_wp2
            go_ret
            unfold MainPost
            exact ⟨_, rfl, hB1, .inr ⟨rfl, hM.out, hb1⟩⟩
          | true =>
            have hN' : numsL r = some vs := by
              rcases hN with ⟨_, h⟩ | ⟨h, _⟩
              · exact h
              · cases h
            rw [hN'] at HM
            clear hN hN' C
            by_cases h8 : vs.length ≤ 8
            · have hM := hide (show mainL (s :: nm :: r) = some (nm, vs) by rw [HM.out]; simp only [h8, if_true])
              have h8' : ¬ (8 : Int) < (vs.length : Int) := by omega
              clear HM h8
              obtain ⟨_, _, _, _, z4, _, _, _⟩ := hR1.cells
              have f4 := hR1.unfrozen 4
              have hR2 := hide (hR1.setArgs vs (own_low ho hB))
              have hB2 := hide (hB1.setCell (p := ⟨b, 4, none⟩) hR1.le (.slice va vs.length vc))
              have hgb : g ≠ b := fun e => by
                have := HW.out
                rw [e, hR.self] at this
                injection this with e1
                injection e1 with _ e2 _
                cases e2
              have q1 : (w1.setCell ⟨b, 4, none⟩ (.slice va vs.length vc)).cell? ⟨g, 1, none⟩ = some (.string nm) := by rw [World.cell?_setCell_far _ _ _ _ (by simpa using hgb.symm)]; exact k1
              have HW2 : (w1.setCell ⟨b, 4, none⟩ (.slice va vs.length vc)).heap[g]? = some (.cells ((s :: nm :: r).map Value.string).toArray 9 (0, 0)) := by
                rw [Below.heap_setCell _ _ _ _ (by simpa using hgb), hb1.block g (lt_row HW.out)]
                exact HW.out
              have hs2 : (w1.setCell ⟨b, 4, none⟩ (.slice va vs.length vc)).heap.size = w1.heap.size := by simp [World.setCell]
              have HR1 := hide hR1
              clear hR1 hR ho k1
              go_upto_region 7 with fail
              generalize w1.setCell ⟨b, 4, none⟩ (.slice va vs.length vc) = w2 at hR2 hB2 q1 hs2 HW2 ⊢
              have hR2' := hR2.out
              obtain ⟨_, y1, _, _, _, _, _, y7⟩ := hR2'.cells
              have f7 := hR2'.unfrozen 7
              obtain ⟨i0, hi, hz0, hz1, hz2⟩ := info_parts Tryz.info78
              first
                | (have hm1 : (1 : Int) < (m : Int) + 2 := by omega)
                | skip
              have hou := hR2'.uses
              have hBw : B ≤ w2.heap.size := by omega
              clear hs2
              have hb7 := hR2'.self
              clear hR2' z4 f4
              refine wp_region_noPanic ?_
              refine wp_region_held_drew (S := fun w' => w'.cell? ⟨g, 1, none⟩ = some (.string nm) ∧ w'.cell? ⟨b, 1, none⟩ = some (.int .i64 st.line)) (by kernel_rfl) ⟨by simpa using q1, by simpa using y1⟩ (fun hHeld => ?_)
              refine takeD (i := 0) (d := some 41) (v := ?_) rfl rfl (by kernel_rfl) (by kernel_rfl) (by kernel_rfl) (fun _ _ _ h => h) (Or.inl ⟨by rfl, ?_⟩) (by assumption) ?_
              rotate_left
              · intro w hSw
                go_simp
                try (with_reducible rfl)
              try simp only [Act.put, List.setIfInBounds_toArray, List.set_cons_zero, List.set_cons_succ]
              refine takeD (i := 1) (d := some 42) (v := ?_) rfl rfl (by kernel_rfl) (by kernel_rfl) (by kernel_rfl) (fun _ _ _ h => h) (Or.inl ⟨by rfl, ?_⟩) (by assumption) ?_
              rotate_left
              · intro w hSw
                go_simp
                try (with_reducible rfl)
              try simp only [Act.put, List.setIfInBounds_toArray, List.set_cons_zero, List.set_cons_succ]
              refine takeD (i := 2) (d := some 43) (v := ?_) rfl rfl (by kernel_rfl) (by kernel_rfl) (by kernel_rfl) (fun _ _ _ h => h) (Or.inl ⟨by rfl, ?_⟩) (by assumption) ?_
              rotate_left
              · intro w hSw
                go_simp
                try (with_reducible rfl)
              try simp only [Act.put, List.setIfInBounds_toArray, List.set_cons_zero, List.set_cons_succ]
              refine takeD (i := 3) (d := some 44) (v := ?_) rfl rfl (by kernel_rfl) (by kernel_rfl) (by kernel_rfl) (fun _ _ _ h => h) (Or.inl ⟨by rfl, ?_⟩) (by assumption) ?_
              rotate_left
              · intro w hSw
                go_simp
                try (with_reducible rfl)
              try simp only [Act.put, List.setIfInBounds_toArray, List.set_cons_zero, List.set_cons_succ]
              refine takeD (i := 5) (d := some 46) (v := ?_) rfl rfl (by kernel_rfl) (by kernel_rfl) (by kernel_rfl) (fun _ _ _ h => h) (Or.inl ⟨by rfl, ?_⟩) (by assumption) ?_
              rotate_left
              · intro w hSw
                go_simp
                try (with_reducible rfl)
              try simp only [Act.put, List.setIfInBounds_toArray, List.set_cons_zero, List.set_cons_succ]
              refine takeD (i := 6) (d := some 47) (v := ?_) rfl rfl (by kernel_rfl) (by kernel_rfl) (by kernel_rfl) (fun _ _ _ h => h) (Or.inl ⟨by rfl, ?_⟩) (by assumption) ?_
              rotate_left
              · intro w hSw
                go_simp
                try (with_reducible rfl)
              try simp only [Act.put, List.setIfInBounds_toArray, List.set_cons_zero, List.set_cons_succ]
              refine takeD (i := 7) (d := some 48) (v := ?_) rfl rfl (by kernel_rfl) (by kernel_rfl) (by kernel_rfl) (fun _ _ _ h => h) (Or.inl ⟨by rfl, ?_⟩) (by assumption) ?_
              rotate_left
              · intro w hSw
                go_simp
                try (with_reducible rfl)
              try simp only [Act.put, List.setIfInBounds_toArray, List.set_cons_zero, List.set_cons_succ]
              refine takeD (i := 8) (d := some 49) (v := ?_) rfl rfl (by kernel_rfl) (by kernel_rfl) (by kernel_rfl) (fun _ _ _ h => h) (Or.inl ⟨by rfl, ?_⟩) (by assumption) ?_
              rotate_left
              · intro w hSw
                go_simp
                try (with_reducible rfl)
              try simp only [Act.put, List.setIfInBounds_toArray, List.set_cons_zero, List.set_cons_succ]
              refine takeD (i := 9) (d := some 50) (v := ?_) rfl rfl (by kernel_rfl) (by kernel_rfl) (by kernel_rfl) (fun _ _ _ h => h) (Or.inl ⟨by rfl, ?_⟩) (by assumption) ?_
              rotate_left
              · intro w hSw
                go_simp
                try (with_reducible rfl)
              try simp only [Act.put, List.setIfInBounds_toArray, List.set_cons_zero, List.set_cons_succ]
              refine takeD (i := 10) (d := some 51) (v := ?_) rfl rfl (by kernel_rfl) (by kernel_rfl) (by kernel_rfl) (fun _ _ _ h => h) (Or.inl ⟨by rfl, ?_⟩) (by assumption) ?_
              rotate_left
              · intro w hSw
                go_simp
                try (with_reducible rfl)
              try simp only [Act.put, List.setIfInBounds_toArray, List.set_cons_zero, List.set_cons_succ]
              refine takeD (i := 11) (d := some 52) (v := ?_) rfl rfl (by kernel_rfl) (by kernel_rfl) (by kernel_rfl) (fun _ _ _ h => h) (Or.inl ⟨by rfl, ?_⟩) (by assumption) ?_
              rotate_left
              · intro w hSw
                go_simp
                try (with_reducible rfl)
              try simp only [Act.put, List.setIfInBounds_toArray, List.set_cons_zero, List.set_cons_succ]
              refine takeD (i := 12) (d := some 53) (v := ?_) rfl rfl (by kernel_rfl) (by kernel_rfl) (by kernel_rfl) (fun _ _ _ h => h) (Or.inl ⟨by rfl, ?_⟩) (by assumption) ?_
              rotate_left
              · intro w hSw
                go_simp
                try (with_reducible rfl)
              try simp only [Act.put, List.setIfInBounds_toArray, List.set_cons_zero, List.set_cons_succ]
              refine takeD (i := 13) (d := some 54) (v := ?_) rfl rfl (by kernel_rfl) (by kernel_rfl) (by kernel_rfl) (fun _ _ _ h => h) (Or.inl ⟨by rfl, ?_⟩) (by assumption) ?_
              rotate_left
              · intro w hSw
                go_simp
                try (with_reducible rfl)
              try simp only [Act.put, List.setIfInBounds_toArray, List.set_cons_zero, List.set_cons_succ]
              refine wpAnyH_ready (rs := [4, 14]) (by kernel_rfl) (by simp) ?_
              refine AllReadyH.cons rfl (fun K hK => ?_) (AllReadyH.cons rfl (fun K hK => ?_) AllReadyH.nil)
              · go_simp
                refine hK.out _ _ hHeld (fun hHeld => ?_)
                clear hK K
                try simp only [Act.put, List.setIfInBounds_toArray, List.set_cons_zero, List.set_cons_succ]
                refine wpAnyH_ready (rs := [14]) (by kernel_rfl) (by simp) ?_
                refine AllReadyH.cons rfl (fun K hK => ?_) AllReadyH.nil
                go_simp
                clear hHeld
                refine hK.out _ _ ⟨by simp [World.cell?_alloc_some, q1], by simp [World.cell?_alloc_some, y1]⟩ (fun hHeld => ?_)
                clear hK K
                try simp only [Act.put, List.setIfInBounds_toArray, List.set_cons_zero, List.set_cons_succ]
                refine wpAnyH_ready (rs := [15]) (by kernel_rfl) (by simp) ?_
                refine AllReadyH.cons rfl (fun K hK => ?_) AllReadyH.nil
                rw [if_pos (by rfl)]
                refine wp_append_own _ (.tmp 45) (.tmp 55) 52 rfl B 78 i0 (.agg #[.string ⟨#[]⟩, .int .i64 0, .int .i64 0, .int .i64 0]) 4 40 Tryz.underlying52 hi hz0 hz1 hz2 rfl (by decide) uv st.uses.length (useV st.uses) rfl (by exact hou.alloc _) ⟨w2.heap.size, 0, none⟩ 1 1 [.string nm, .int .i64 st.line, .int .i64 (-1), .int .i64 0] (by rfl) rfl (by exact cells_new w2 _ 78) (by simp [Value.oneCell']) (by unfold maxLen; omega) (by omega) (by simp; omega) ?_
                intro v3 w3 ho3 hg3 _
                have hb73 : w3.heap[b]? = _ := grown_heap hg3 (own_keep hou (alloc_below w2 _).drew) (by rw [((alloc_below w2 _).drew).block b (lt_row hb7)]; exact hb7) (by decide)
                have k73 := cell_row (i := 7) hb73 rfl
                have f73 := frozen_row (i := 7) hb73
                obtain ⟨a3, c3, rfl⟩ := own_any ho3
                clear hHeld
                refine hK.out _ _ ⟨cell_grown' ((alloc_below w2 _).drew) hg3 hou q1 HW2 (by decide), cell_grown' ((alloc_below w2 _).drew) hg3 hou y1 hb7 (by decide)⟩ (fun hHeld => ?_)
                clear hK K
                try simp only [Act.put, List.setIfInBounds_toArray, List.set_cons_zero, List.set_cons_succ]
                refine takeD (i := 16) (d := some 57) (v := ?_) rfl rfl (by kernel_rfl) (by kernel_rfl) (by kernel_rfl) (fun _ _ _ h => h) (Or.inl ⟨by rfl, ?_⟩) (by assumption) ?_
                rotate_left
                · intro w hSw
                  go_simp
                  try (with_reducible rfl)
                try simp only [Act.put, List.setIfInBounds_toArray, List.set_cons_zero, List.set_cons_succ]
                refine takeD (i := 17) (d := some 58) (v := ?_) rfl rfl (by kernel_rfl) (by kernel_rfl) (by kernel_rfl) (fun _ _ _ h => h) (Or.inl ⟨by rfl, ?_⟩) (by assumption) ?_
                rotate_left
                · intro w hSw
                  go_simp
                  try (with_reducible rfl)
                try simp only [Act.put, List.setIfInBounds_toArray, List.set_cons_zero, List.set_cons_succ]
                refine wpAnyH_ready (rs := [18]) (by kernel_rfl) (by simp) ?_
                refine AllReadyH.cons rfl (fun K hK => ?_) AllReadyH.nil
                go_simp
                refine hK.out _ _ ⟨by rw [World.cell?_setCell_far _ _ _ _ (by simpa using hgb.symm)]; exact hHeld.1, cell_row (set_row (i := 7) hb73 _) rfl⟩ (fun hHeld => ?_)
                clear hK K
                try simp only [Act.put, List.setIfInBounds_toArray, List.set_cons_zero, List.set_cons_succ]
                refine wpAnyH_done (by kernel_rfl) ?_ _
                refine NoPanic.normal ?_
                have R := hR2.out.use ⟨nm, st.line, -1, 0⟩ (alloc_below w2 (.cells #[.string nm, .int .i64 st.line, .int .i64 (-1), .int .i64 0] 78)).drew hBw ho3 hg3
                go_wp2
                go_ret
                unfold MainPost
                exact ⟨_, rfl, hB2.out.trans R.2, .inl ⟨rfl, nm, vs, _, _, hM.out, R.1⟩⟩
              · go_simp
                clear hHeld
                refine hK.out _ _ ⟨by simp [World.cell?_alloc_some, q1], by simp [World.cell?_alloc_some, y1]⟩ (fun hHeld => ?_)
                clear hK K
                try simp only [Act.put, List.setIfInBounds_toArray, List.set_cons_zero, List.set_cons_succ]
                have k7a := keep_cell y7 (alloc_below w2 (.cells #[.string nm, .int .i64 st.line, .int .i64 (-1), .int .i64 0] 78))
                refine wpAnyH_ready (rs := [4]) (by kernel_rfl) (by simp) ?_
                refine AllReadyH.cons rfl (fun K hK => ?_) AllReadyH.nil
                go_simp
                refine hK.out _ _ hHeld (fun hHeld => ?_)
                clear hK K
                try simp only [Act.put, List.setIfInBounds_toArray, List.set_cons_zero, List.set_cons_succ]
                refine wpAnyH_ready (rs := [15]) (by kernel_rfl) (by simp) ?_
                refine AllReadyH.cons rfl (fun K hK => ?_) AllReadyH.nil
                rw [if_pos (by rfl)]
                refine wp_append_own _ (.tmp 45) (.tmp 55) 52 rfl B 78 i0 (.agg #[.string ⟨#[]⟩, .int .i64 0, .int .i64 0, .int .i64 0]) 4 40 Tryz.underlying52 hi hz0 hz1 hz2 rfl (by decide) uv st.uses.length (useV st.uses) rfl (by exact hou.alloc _) ⟨w2.heap.size, 0, none⟩ 1 1 [.string nm, .int .i64 st.line, .int .i64 (-1), .int .i64 0] (by rfl) rfl (by exact cells_new w2 _ 78) (by simp [Value.oneCell']) (by unfold maxLen; omega) (by omega) (by simp; omega) ?_
                intro v3 w3 ho3 hg3 _
                have hb73 : w3.heap[b]? = _ := grown_heap hg3 (own_keep hou (alloc_below w2 _).drew) (by rw [((alloc_below w2 _).drew).block b (lt_row hb7)]; exact hb7) (by decide)
                have k73 := cell_row (i := 7) hb73 rfl
                have f73 := frozen_row (i := 7) hb73
                obtain ⟨a3, c3, rfl⟩ := own_any ho3
                clear hHeld
                refine hK.out _ _ ⟨cell_grown' ((alloc_below w2 _).drew) hg3 hou q1 HW2 (by decide), cell_grown' ((alloc_below w2 _).drew) hg3 hou y1 hb7 (by decide)⟩ (fun hHeld => ?_)
                clear hK K
                try simp only [Act.put, List.setIfInBounds_toArray, List.set_cons_zero, List.set_cons_succ]
                refine takeD (i := 16) (d := some 57) (v := ?_) rfl rfl (by kernel_rfl) (by kernel_rfl) (by kernel_rfl) (fun _ _ _ h => h) (Or.inl ⟨by rfl, ?_⟩) (by assumption) ?_
                rotate_left
                · intro w hSw
                  go_simp
                  try (with_reducible rfl)
                try simp only [Act.put, List.setIfInBounds_toArray, List.set_cons_zero, List.set_cons_succ]
                refine takeD (i := 17) (d := some 58) (v := ?_) rfl rfl (by kernel_rfl) (by kernel_rfl) (by kernel_rfl) (fun _ _ _ h => h) (Or.inl ⟨by rfl, ?_⟩) (by assumption) ?_
                rotate_left
                · intro w hSw
                  go_simp
                  try (with_reducible rfl)
                try simp only [Act.put, List.setIfInBounds_toArray, List.set_cons_zero, List.set_cons_succ]
                refine wpAnyH_ready (rs := [18]) (by kernel_rfl) (by simp) ?_
                refine AllReadyH.cons rfl (fun K hK => ?_) AllReadyH.nil
                go_simp
                refine hK.out _ _ ⟨by rw [World.cell?_setCell_far _ _ _ _ (by simpa using hgb.symm)]; exact hHeld.1, cell_row (set_row (i := 7) hb73 _) rfl⟩ (fun hHeld => ?_)
                clear hK K
                try simp only [Act.put, List.setIfInBounds_toArray, List.set_cons_zero, List.set_cons_succ]
                refine wpAnyH_done (by kernel_rfl) ?_ _
                refine NoPanic.normal ?_
                have R := hR2.out.use ⟨nm, st.line, -1, 0⟩ (alloc_below w2 (.cells #[.string nm, .int .i64 st.line, .int .i64 (-1), .int .i64 0] 78)).drew hBw ho3 hg3
                go_wp2
                go_ret
                unfold MainPost
                exact ⟨_, rfl, hB2.out.trans R.2, .inl ⟨rfl, nm, vs, _, _, hM.out, R.1⟩⟩
            · have hM := hide (show mainL (s :: nm :: r) = none by rw [HM.out]; simp only [h8, if_false])
              have h8' : (8 : Int) < (vs.length : Int) := by omega
              clear HM h8 ho
              go_wp2
              go_ret
              unfold MainPost
              exact ⟨_, rfl, hB1, .inr ⟨rfl, hM.out, hb1⟩⟩
end Go.Proofs.YtfnloomcianbiaaGreatDoor
