/- body. -/
import Derived.Test.YtfnloomcianbiaaGreatDoorCodeA
import Derived.Test.YtfnloomcianbiaaGreatDoorTakeI
namespace Go.Proofs.YtfnloomcianbiaaGreatDoor
open Go.RowKit Go.ChangeShapes Go.WideShapes Go.ChangeAt Go.Deep

/-- An instruction's line, put behind the last function's code. -/
def insStep (st : St) (ws : List ByteArray) : Option St :=
  match insLineL ws, st.funcs.getLast? with
  | some x, some f => if f.code.length = 256 then none else some (st.add st.funcs.dropLast f x)
  | _, _ => none
def isEnd (ws : List ByteArray) : Bool := match ws with
  | [s] => isWord s [101, 110, 100]
  | _ => false
/-- The functions and the end; n: more than there are bytes left. -/
def bodyL : Nat → St → Except Int St
  | 0, _ => .error 0
  | n + 1, st =>
    if cutWhole st.rest = true then
      if isEnd (lineOf st) = true then (if (cutRest st.rest).toList.isEmpty = true then .ok st.next else .error (st.line + 1 + 1))
      else match funcL (lineOf st) st.funcs with
        | some f => bodyL n { st.next with funcs := st.funcs ++ [f] }
        | none => match insStep st.next (lineOf st) with
          | some st' => bodyL n st'
          | none => .error (st.line + 1)
    else .error (st.line + 1)

theorem cut_lt (s : ByteArray) (h : cutWhole s = true) : (cutRest s).size + 1 ≤ s.size := by
  rcases Lib.indexB_cases s nl with hh | ⟨i, hh, hi⟩
  · have := (Lib.cutB_miss s nl hh).2.2
    unfold cutWhole at h
    rw [this] at h; cases h
  · have h2 := (Lib.cutB_hit s nl i hh).2.1
    unfold cutRest
    rw [h2, ByteArray.size_extract]
    have : nl.size = 1 := rfl
    omega

/-- What keeps the numbers small. -/
structure Small (st : St) : Prop where
  rest : st.rest.size ≤ 200000
  line : 0 ≤ st.line ∧ st.line + st.rest.size ≤ 400000
  funcs : st.funcs.length + st.rest.size ≤ 400000
  uses : st.uses.length + st.rest.size ≤ 400000
  code : ∀ f ∈ st.funcs, f.code.length + st.rest.size ≤ 400000

theorem funcL_code {ws : List ByteArray} {fs : List Fun} {f : Fun} (h : funcL ws fs = some f) : f.code = [] := by
  unfold funcL at h
  split at h
  · split at h
    · split at h
      · split at h
        · cases h; rfl
        · cases h
      · cases h
    · cases h
  · cases h

theorem Small.func {st : St} (h : Small st) (hq : cutWhole st.rest = true) {f : Fun} (hf : f.code = []) : Small { st.next with funcs := st.funcs ++ [f] } := by
  have hlt := cut_lt st.rest hq
  obtain ⟨h1, h2, h3, h4, h5⟩ := h
  refine ⟨?_, ?_, ?_, ?_, ?_⟩
  · show (cutRest st.rest).size ≤ _; omega
  · show 0 ≤ st.line + 1 ∧ st.line + 1 + ((cutRest st.rest).size : Nat) ≤ _; omega
  · show (st.funcs ++ [f]).length + (cutRest st.rest).size ≤ _; simp; omega
  · show st.uses.length + (cutRest st.rest).size ≤ _; omega
  · intro g hg
    show g.code.length + (cutRest st.rest).size ≤ _
    rcases List.mem_append.1 hg with hg | hg
    · have := h5 g hg; omega
    · simp only [List.mem_singleton] at hg
      rw [hg, hf]; simp; omega

theorem Small.ins {st : St} (h : Small st) (hq : cutWhole st.rest = true) {fs : List Fun} {f : Fun} (hf : st.funcs = fs ++ [f]) (x : (Int × Int) × ByteArray) : Small (st.next.add fs f x) := by
  have hlt := cut_lt st.rest hq
  obtain ⟨h1, h2, h3, h4, h5⟩ := h
  refine ⟨?_, ?_, ?_, ?_, ?_⟩
  · show (cutRest st.rest).size ≤ _; omega
  · show 0 ≤ st.line + 1 ∧ st.line + 1 + ((cutRest st.rest).size : Nat) ≤ _; omega
  · show (fs ++ [{ f with code := f.code ++ [x.1] }]).length + (cutRest st.rest).size ≤ _
    rw [hf] at h3
    simp at h3 ⊢; omega
  · show (if x.1.1 = 16 then st.uses ++ [⟨x.2, st.next.line, (fs.length : Int), (f.code.length : Int)⟩] else st.uses).length + (cutRest st.rest).size ≤ _
    split
    · simp; omega
    · omega
  · intro g hg
    show g.code.length + (cutRest st.rest).size ≤ _
    have hg' : g ∈ fs ++ [{ f with code := f.code ++ [x.1] }] := hg
    rcases List.mem_append.1 hg' with hg | hg
    · have := h5 g (by rw [hf]; simp [hg]); omega
    · simp only [List.mem_singleton] at hg
      have := h5 f (by rw [hf]; simp)
      rw [hg]; simp; omega

set_option maxRecDepth 100000 in
set_option maxHeartbeats 4000000 in
theorem body_any (B b : Nat) (fv av uv : Value) (cs : List Value) (st : St) (w : World) (hS : Small st) (hE : Env w) (hB : B ≤ w.heap.size) (hR : Rd B w b fv av uv cs st) :
    Calls Tryz.prog 21 #[.pointer (some ⟨b, 0, none⟩)] w (Stood B b w (bodyL (st.rest.size + 1) st)) := by
  have h9 := hR.nine
  go_enter Tryz.func21, Tryz.ntmps21
  go_wp2
  go_loopg [4] (st.rest.size) (fun gg _ wr => Hid (Below B w wr) ∧ Hid (∃ fv av uv cs st' n, Rd B wr b fv av uv cs st' ∧ Small st' ∧ st'.rest.size ≤ gg ∧ st'.rest.size < n ∧ bodyL (st.rest.size + 1) st = bodyL n st'))
  case atStart => exact ⟨Below.refl _ _, fv, av, uv, cs, st, _, hR, hS, Nat.le_refl _, Nat.lt_succ_self _, rfl⟩
  case round =>
    obtain ⟨hbw, hx⟩ := hrel
    obtain ⟨fv', av', uv', cs', st', n, hR', hS', hg', hn', hbl⟩ := hx.out
    obtain ⟨k, rfl⟩ : ∃ k, n = k + 1 := ⟨n - 1, by omega⟩
    clear hx hR hS
    have hsm := hS'.rest
    have hsl := hS'.line
    have hsf := hS'.funcs
    have hsu := hS'.uses
    have hEr := hE.on hbw.out h9
    have hBr : B ≤ wr.heap.size := Nat.le_trans hB hbw.out.size
    have C1 := words_rd B b fv' av' uv' cs' st' wr (by omega) (by omega) hEr hBr hR'
    clear hR'
    go_wp2_with (go_at_call 30; go_must (refine C1.mono ?_; rintro e w1 ⟨g, m, rfl, hm, ⟨hm1, hm2⟩, hb1, hR1, hw1, hz1⟩; refine Hid.out ?_))
    refine Lib.hid ?_
    have hE1 := hEr.on hb1 h9
    have hB1 : B ≤ w1.heap.size := Nat.le_trans hBr hb1.size
    have hbb : Below B w w1 := hbw.out.trans hb1
    obtain ⟨_, y1, _⟩ := hR1.cells
    have HL := hide hbl
    clear C1 hbl
    cases hq : cutWhole st'.rest with
    | false =>
      have HH := hide (show bodyL (st.rest.size + 1) st = .error (st'.line + 1) by rw [HL.out]; unfold bodyL; rw [hq]; rfl)
      go_wp2
      go_ret
      unfold Stood
      rw [HH.out]
      exact ⟨hbb, rfl, y1⟩
    | true =>
      have hlt := cut_lt st'.rest hq
      cases he : isEnd (lineOf st') with
      | true =>
        have HL2 := hide (show bodyL (st.rest.size + 1) st = if (cutRest st'.rest).toList.isEmpty = true then .ok st'.next else .error (st'.line + 1 + 1) by rw [HL.out]; unfold bodyL; rw [hq, he]; rfl)
        obtain ⟨s, hs1⟩ : ∃ s, lineOf st' = [s] := by
          revert he
          generalize lineOf st' = l
          intro he
          match l, he with
          | [s], _ => exact ⟨s, rfl⟩
        rw [hs1] at hw1 he hm
        have hd : (s.toList == [101, 110, 100]) = true := he
        have hm1' : m = 1 := by rw [← hm]; rfl
        subst hm1'
        have c0 := cell_row (i := 0) hw1 rfl
        have C2 := atEnd_any B b fv' av' uv' cs' st'.next w1 (by show 0 ≤ st'.line + 1 ∧ st'.line + 1 ≤ _; omega) hB1 hR1
        clear he hs1
        go_wp2_with (go_at_call 33; go_must (refine C2.mono ?_; rintro e w2 ⟨rfl, hb2, hR2⟩; refine Hid.out ?_))
        refine Lib.hid ?_
        cases hq2 : st'.next.rest.toList.isEmpty with
        | true =>
          rw [hq2] at hR2
          have HH := hide (show bodyL (st.rest.size + 1) st = .ok st'.next by rw [HL2.out]; exact if_pos hq2)
          go_wp2
          go_ret
          unfold Stood
          rw [HH.out]
          exact ⟨hbb.trans hb2, rfl, _, _, _, _, hR2⟩
        | false =>
          rw [hq2] at hR2
          have HH := hide (show bodyL (st.rest.size + 1) st = .error (st'.line + 1 + 1) by rw [HL2.out]; exact if_neg (by rw [show (cutRest st'.rest).toList.isEmpty = false from hq2]; decide))
          obtain ⟨_, y2, _⟩ := hR2.cells
          go_wp2
          go_ret
          unfold Stood
          rw [HH.out]
          exact ⟨hbb.trans hb2, rfl, y2⟩
      | false =>
        have HL2 := hide (show bodyL (st.rest.size + 1) st = match funcL (lineOf st') st'.funcs with
          | some f => bodyL k { st'.next with funcs := st'.funcs ++ [f] }
          | none => match insStep st'.next (lineOf st') with
            | some st'' => bodyL k st''
            | none => .error (st'.line + 1) by rw [HL.out]; rw [bodyL, hq, he]; rfl)
        have hcap : ∀ s ∈ lineOf st', s.size < 4294967281 := fun s hs' => by have := hz1 s hs'; omega
        have C2 := takeFunc_any B b fv' av' uv' cs' st'.next (lineOf st') g m hm (by show st'.funcs.length ≤ _; omega) hcap w1 hE1 hB1 hR1 hw1
        have C3 := fun (w2 : World) (hb2 : Below w1.heap.size w1 w2) => takeIns_any B b fv' av' uv' cs' st'.next (lineOf st') g m hm (by omega) (by show st'.funcs.length ≤ _; omega) (by show st'.uses.length ≤ _; omega) (fun f hf => by have := hS'.code f hf; omega) hcap w2 (hE1.below hb2) (Nat.le_trans hB1 hb2.size) (hR1.keep hb2) (by rw [hb2.block g (lt_row hw1)]; exact hw1)
        clear HL
        have hcase : (m = 1 ∧ ∃ s : ByteArray, (s.toList == [101, 110, 100]) = false ∧ w1.cell? ⟨g, 0, none⟩ = some (.string s)) ∨ ¬ (m : Int) = 1 := by
          by_cases h1 : m = 1
          · refine .inl ⟨h1, ?_⟩
            obtain ⟨s, hs1⟩ : ∃ s, lineOf st' = [s] := by
              rw [h1] at hm
              revert hm
              generalize lineOf st' = l
              intro hm
              match l, hm with
              | [s], _ => exact ⟨s, rfl⟩
            refine ⟨s, by rw [hs1] at he; exact he, ?_⟩
            have h := hw1
            rw [hs1] at h
            exact cell_row (i := 0) h rfl
          · exact .inr (by omega)
        have HS := hide hS'
        have HC3 := hide C3
        clear hS' C3
        rcases hcase with ⟨rfl, s, hd, c0⟩ | h1'
        all_goals
          go_wp2_with (go_at_call 34; go_must (refine C2.mono ?_; rintro e w2 ⟨ok, rfl, hF⟩; refine Hid.out ?_))
          refine Lib.hid ?_
          rcases hF with ⟨rfl, hb2, f, fv2, cs2, hf, hR2⟩ | ⟨rfl, hf, hb2⟩
          · have HN := hide (show bodyL (st.rest.size + 1) st = bodyL k { st'.next with funcs := st'.funcs ++ [f] } by
              rw [HL2.out]
              have hf' : funcL (lineOf st') st'.funcs = some f := hf
              rw [hf'])
            have HS2 := hide (HS.out.func hq (funcL_code hf))
            have HR2 := hide hR2
            clear HL2 C2 hf hR2
            go_wp2
            go_roundg ((cutRest st'.rest).size)
            case measure => omega
            case rel => exact ⟨hbb.trans hb2, fv2, av', uv', cs2, _, k, HR2.out, HS2.out, Nat.le_refl _, by show (cutRest st'.rest).size < k; omega, HN.out⟩
          · have C4 := HC3.out w2 hb2
            clear C2
            go_wp2_with (go_at_call 35; go_must (refine C4.mono ?_; rintro e w3 ⟨ok, rfl, hI⟩; refine Hid.out ?_))
            refine Lib.hid ?_
            have hf' : funcL (lineOf st') st'.funcs = none := hf
            have hb12 : Below B w1 w2 := hb2.mono hB1
            rcases hI with ⟨rfl, hb3, x, fs, f, fv3, av3, uv3, cs3, hx, hfs, hcl, hR3⟩ | ⟨rfl, hb3, hno⟩
            · have hfs' : st'.funcs = fs ++ [f] := hfs
              have HN := hide (show bodyL (st.rest.size + 1) st = bodyL k (st'.next.add fs f x) by
                rw [HL2.out, hf']
                have : insStep st'.next (lineOf st') = some (st'.next.add fs f x) := by
                  unfold insStep
                  rw [hx, hfs]
                  simp [hcl]
                rw [this])
              have HS2 := hide (HS.out.ins hq hfs' x)
              have HR3 := hide hR3
              clear HL2 C4 hf hf' hfs hfs' hR3 hx
              go_wp2
              go_roundg ((cutRest st'.rest).size)
              case measure => omega
              case rel => exact ⟨(hbb.trans hb12).trans hb3, fv3, av3, uv3, cs3, _, k, HR3.out, HS2.out, Nat.le_refl _, by show (cutRest st'.rest).size < k; omega, HN.out⟩
            · have HN := hide (show bodyL (st.rest.size + 1) st = .error (st'.line + 1) by
                rw [HL2.out, hf']
                have : insStep st'.next (lineOf st') = none := by
                  unfold insStep
                  rcases hno with h | h | ⟨fs, f, h, h2⟩
                  · rw [h]
                  · rw [h]; cases insLineL (lineOf st') <;> rfl
                  · rw [h]; cases insLineL (lineOf st') <;> simp [h2]
                rw [this])
              have y3 := keep_cell (keep_cell y1 hb2) hb3
              have hb23 : Below B w2 w3 := hb3.mono (Nat.le_trans hB1 hb2.size)
              clear HL2 C4 hf hf' hno
              go_wp2
              go_ret
              unfold Stood
              rw [HN.out]
              exact ⟨(hbb.trans hb12).trans hb23, rfl, y3⟩
end Go.Proofs.YtfnloomcianbiaaGreatDoor
