/- BeatPlays: the beats and the document's, plain. -/
import Derived.Test.YtcfenakafcfjbaaRla
namespace Go.Proofs.Ytcfenakafcfjbaa
open Go.RowKit Go.ChangeShapes Go.WideShapes Go.ChangeAt Go.Deep Go.Maps Go.Sort
namespace beatPlays

/-- Who has this number. -/
def look : List Wd → Int → Option Wd
  | [], _ => none
  | e :: r, x => if e.nd = x then some e else look r x
theorem look_no : ∀ {S : List Wd} {x : Int}, NoP S x → look S x = none
  | [], _, _ => rfl
  | a :: r, x, h => by
    have h0 : a.nd ≠ x := h a (by simp)
    simp [look, h0, look_no (fun e he => h e (List.mem_cons_of_mem _ he) : NoP r x)]
theorem no_look : ∀ {S : List Wd} {x : Int}, look S x = none → NoP S x
  | [], _, _ => fun e he => by cases he
  | a :: r, x, h => by
    unfold look at h
    split at h
    · cases h
    · rename_i h0
      intro e he
      rcases List.mem_cons.1 he with rfl | he
      · exact h0
      · exact no_look h e he
theorem look_at : ∀ {S : List Wd} {x : Int} {k : Nat} {e : Wd}, AtP S x k e → look S x = some e
  | [], _, _, _, ⟨hk, _⟩ => by simp at hk
  | a :: r, x, 0, e, ⟨hk, h1, h2, _⟩ => by
    simp at h1; subst h1
    simp [look, h2]
  | a :: r, x, k + 1, e, ⟨hk, h1, h2, h3⟩ => by
    have h0 : a.nd ≠ x := h3 0 (by omega)
    have : AtP r x k e := ⟨by simpa using hk, by simpa using h1, h2, fun j hj => by have := h3 (j + 1) (by omega); simpa using this⟩
    simp [look, h0, look_at this]
theorem look_mem : ∀ {S : List Wd} {x : Int} {e : Wd}, look S x = some e → e ∈ S ∧ e.nd = x
  | [], _, _, h => by cases h
  | a :: r, x, e, h => by
    unfold look at h
    split at h
    · rename_i h0
      cases h
      exact ⟨by simp, h0⟩
    · obtain ⟨h1, h2⟩ := look_mem h
      exact ⟨List.mem_cons_of_mem _ h1, h2⟩
theorem mem_look : ∀ {S : List Wd} {e : Wd}, (S.map Wd.nd).Nodup → e ∈ S → look S e.nd = some e
  | [], _, _, h => by cases h
  | a :: r, e, hn, h => by
    rw [List.map_cons, List.nodup_cons] at hn
    rcases List.mem_cons.1 h with rfl | h
    · simp [look]
    · have h0 : a.nd ≠ e.nd := fun q => hn.1 (by rw [q]; exact List.mem_map_of_mem h)
      simp [look, h0, mem_look hn.2 h]
theorem look_set : ∀ {S : List Wd} {x : Int} {k : Nat} {e e' : Wd} (y : Int), AtP S x k e → e'.nd = x → look (S.set k e') y = if y = x then some e' else look S y
  | [], _, _, _, _, _, ⟨hk, _⟩, _ => by simp at hk
  | a :: r, x, 0, e, e', y, ⟨hk, h1, h2, _⟩, h' => by
    simp at h1; subst h1
    simp only [List.set_cons_zero, look, h', h2]
    by_cases q : y = x
    · subst q; simp
    · have : ¬ x = y := fun e => q e.symm
      simp [q, this]
  | a :: r, x, k + 1, e, e', y, ⟨hk, h1, h2, h3⟩, h' => by
    have h0 : a.nd ≠ x := h3 0 (by omega)
    have : AtP r x k e := ⟨by simpa using hk, by simpa using h1, h2, fun j hj => by have := h3 (j + 1) (by omega); simpa using this⟩
    simp only [List.set_cons_succ, look, look_set y this h']
    by_cases q : y = x
    · subst q; simp [h0]
    · simp [q]
theorem look_app : ∀ (S : List Wd) (e : Wd) (y : Int), look (S ++ [e]) y = (look S y).or (if e.nd = y then some e else none)
  | [], e, y => by simp [look]
  | a :: r, e, y => by
    rw [List.cons_append, look, look, look_app r e y]
    split <;> simp
theorem set_nds : ∀ {S : List Wd} {x : Int} {k : Nat} {e e' : Wd}, AtP S x k e → e'.nd = x → (S.set k e').map Wd.nd = S.map Wd.nd
  | [], _, _, _, _, ⟨hk, _⟩, _ => by simp at hk
  | a :: r, x, 0, e, e', ⟨hk, h1, h2, _⟩, h' => by
    simp at h1; subst h1
    simp [h', h2]
  | a :: r, x, k + 1, e, e', ⟨hk, h1, h2, h3⟩, h' => by
    have h0 : a.nd ≠ x := h3 0 (by omega)
    have : AtP r x k e := ⟨by simpa using hk, by simpa using h1, h2, fun j hj => by have := h3 (j + 1) (by omega); simpa using this⟩
    simp [set_nds this h']

def okW (e : Wd) : Prop := e.lf = e.mo ∧ 0 ≤ e.at' ∧ e.at' ≤ 1099511627776 ∧ I64 e.nd ∧ 0 ≤ e.mo ∧ e.mo ≤ 1099511627776
def atW (e : Wd) : Option Int := if e.inn then some e.at' else none
/-- The beats and the document's tell the same. -/
structure PR (F G : Int → Option Int) (S : List Wd) : Prop where
  g : ∀ x, G x = (look S x).map Wd.mo
  f : ∀ x, F x = (look S x).bind atW
  nd : (S.map Wd.nd).Nodup
  ok : ∀ e ∈ S, okW e

theorem PR.nil : PR (fun _ => none) (fun _ => none) [] := ⟨fun _ => rfl, fun _ => rfl, List.nodup_nil, fun _ h => by cases h⟩
theorem PR.setp {F G F' G' : Int → Option Int} {S : List Wd} (h : PR F G S) {x : Int} {k : Nat} {e e' : Wd} (hk : AtP S x k e) (hn : e'.nd = x) (ho : okW e')
    (hF : ∀ y, F' y = if y = x then atW e' else F y) (hG : ∀ y, G' y = if y = x then some e'.mo else G y) : PR F' G' (S.set k e') := by
  refine ⟨fun y => ?_, fun y => ?_, by rw [set_nds hk hn]; exact h.nd, fun z hz => ?_⟩
  · rw [hG y, look_set y hk hn, h.g y]
    split <;> rfl
  · rw [hF y, look_set y hk hn, h.f y]
    split <;> rfl
  · rcases List.mem_or_eq_of_mem_set hz with h1 | h1
    · exact h.ok z h1
    · rw [h1]; exact ho
theorem PR.push {F G F' G' : Int → Option Int} {S : List Wd} (h : PR F G S) {e' : Wd} (hk : NoP S e'.nd) (ho : okW e')
    (hF : ∀ y, F' y = if y = e'.nd then atW e' else F y) (hG : ∀ y, G' y = if y = e'.nd then some e'.mo else G y) : PR F' G' (S ++ [e']) := by
  have h0 := look_no hk
  refine ⟨fun y => ?_, fun y => ?_, ?_, fun z hz => ?_⟩
  · rw [hG y, look_app, h.g y]
    by_cases q : y = e'.nd
    · subst q; simp [h0]
    · have : ¬ e'.nd = y := fun e => q e.symm
      simp [q, this]
  · rw [hF y, look_app, h.f y]
    by_cases q : y = e'.nd
    · subst q; simp [h0]
    · have : ¬ e'.nd = y := fun e => q e.symm
      simp [q, this]
  · rw [List.map_append, List.nodup_append]
    refine ⟨h.nd, by simp, fun a ha b hb q => ?_⟩
    obtain ⟨z, hz, rfl⟩ := List.mem_map.1 ha
    simp only [List.map_cons, List.map_nil, List.mem_singleton] at hb
    exact hk z hz (q.trans hb)
  · rcases List.mem_append.1 hz with h1 | h1
    · exact h.ok z h1
    · rw [List.mem_singleton.1 h1]; exact ho
theorem at_mem {S : List Wd} {x : Int} {k : Nat} {e : Wd} (hk : AtP S x k e) : e ∈ S ∧ e.nd = x := look_mem (look_at hk)

theorem PR.heardq {F G : Int → Option Int} {S : List Wd} (h : PR F G S) {x : Int} {k : Nat} {e : Wd} (hk : AtP S x k e) (life now : Int) : heardQ F G x life now = (okT now && e.inn && decide (e.lf = life)) := by
  have h1 := look_at hk
  have h2 := (h.ok e (at_mem hk).1).1
  unfold heardQ
  rw [h.f x, h.g x, h1, h2]
  simp only [Option.bind_some, Option.map_some, Option.getD_some, atW]
  cases e.inn
  · simp
  · have : decide (life = e.mo) = decide (e.mo = life) := by simp [eq_comm]
    rw [this]
    simp [Bool.and_comm]
theorem PR.heardn {F G : Int → Option Int} {S : List Wd} (h : PR F G S) {x : Int} (hk : NoP S x) (life now : Int) : heardQ F G x life now = false := by
  unfold heardQ
  rw [h.f x, look_no hk]
  rfl
theorem PR.heard {F G : Int → Option Int} {S : List Wd} (h : PR F G S) {x : Int} {k : Nat} {e : Wd} (hk : AtP S x k e) {life now : Int} (hq : heardQ F G x life now = true) :
    PR (upd F x (max ((F x).getD 0) now)) G (S.set k { e with at' := max e.at' now }) ∧ I64 ((F x).getD 0) := by
  have h1 := look_at hk
  obtain ⟨hm, hn⟩ := at_mem hk
  obtain ⟨o1, o2, o3, o4, o5, o6⟩ := h.ok e hm
  rw [h.heardq hk] at hq
  simp only [Bool.and_eq_true, okT, decide_eq_true_eq] at hq
  obtain ⟨⟨hw, hi⟩, _⟩ := hq
  have hFx : F x = some e.at' := by rw [h.f x, h1]; simp [atW, hi]
  refine ⟨h.setp hk hn ⟨o1, by dsimp only; omega, by dsimp only; omega, o4, o5, o6⟩ (fun y => ?_) (fun y => ?_), ?_⟩
  · simp only [upd, atW, hi, hFx, if_true, Option.getD_some]
  · split
    · rename_i q; rw [q, h.g x, h1]; rfl
    · rfl
  · rw [hFx]; simp only [Option.getD_some]; unfold I64; omega

theorem PR.inq {F G : Int → Option Int} {S : List Wd} (h : PR F G S) {x : Int} {k : Nat} {e : Wd} (hk : AtP S x k e) (life now : Int) : inQ F G x life now = ((okT now && okT life) && !(e.inn || decide (life ≤ e.mo))) := by
  have h1 := look_at hk
  unfold inQ
  rw [h.f x, h.g x, h1]
  simp only [Option.bind_some, Option.map_some, Option.getD_some, Option.isSome_some, atW, Bool.true_and]
  cases e.inn <;> cases okT now <;> cases okT life <;> simp
theorem PR.inn_ {F G : Int → Option Int} {S : List Wd} (h : PR F G S) {x : Int} (hk : NoP S x) (life now : Int) : inQ F G x life now = (okT now && okT life) := by
  unfold inQ
  rw [h.f x, h.g x, look_no hk]
  cases okT now <;> cases okT life <;> simp
theorem PR.inset {F G : Int → Option Int} {S : List Wd} (h : PR F G S) {x : Int} {k : Nat} {e : Wd} (hk : AtP S x k e) {life now : Int} (hx : I64 x) (h1 : okT now = true) (h2 : okT life = true) :
    PR (upd F x now) (upd G x life) (S.set k ⟨x, life, now, life, true⟩) := by
  simp only [okT, decide_eq_true_eq] at h1 h2
  refine h.setp hk rfl ⟨rfl, h1.1, h1.2, hx, h2.1, h2.2⟩ (fun y => ?_) (fun y => ?_)
  · simp [upd, atW]
  · simp [upd]
theorem PR.innew {F G : Int → Option Int} {S : List Wd} (h : PR F G S) {x : Int} (hk : NoP S x) {life now : Int} (hx : I64 x) (h1 : okT now = true) (h2 : okT life = true) :
    PR (upd F x now) (upd G x life) (S ++ [⟨x, life, now, life, true⟩]) := by
  simp only [okT, decide_eq_true_eq] at h1 h2
  refine h.push (e' := ⟨x, life, now, life, true⟩) hk ⟨rfl, h1.1, h1.2, hx, h2.1, h2.2⟩ (fun y => ?_) (fun y => ?_)
  · simp [upd, atW]
  · simp [upd]
theorem PR.off {F G : Int → Option Int} {S : List Wd} (h : PR F G S) (x : Int) : PR (rem F x) G (modF offW S x) := by
  rcases pos_or S x with hk | ⟨k, e, hk⟩
  · rw [modF_no hk]
    have : rem F x = F := by
      funext y
      unfold rem
      split
      · rename_i q; rw [q, h.f x, look_no hk]; rfl
      · rfl
    rw [this]; exact h
  · obtain ⟨hm, hn⟩ := at_mem hk
    rw [modF_at hk]
    refine h.setp hk hn (h.ok e hm) (fun y => ?_) (fun y => ?_)
    · simp [rem, atW, offW]
    · split
      · rename_i q; rw [q, h.g x, look_at hk]; rfl
      · rfl
theorem PR.outs : ∀ (l : List Int) {F G : Int → Option Int} {S : List Wd}, PR F G S → PR (outF F l) G (outS S l)
  | [], _, _, _, h => h
  | a :: r, _, _, _, h => PR.outs r (h.off a)
theorem PR.adds {F G : Int → Option Int} {S : List Wd} (h : PR F G S) (h1 : ∀ e ∈ S, e = ⟨e.nd, 1, 0, 1, true⟩) (x : Int) (hx : I64 x) : PR (upd F x 0) (upd G x 1) (addS S x) ∧ ∀ e ∈ addS S x, e = ⟨e.nd, 1, 0, 1, true⟩ := by
  rcases pos_or S x with hk | ⟨k, e, hk⟩
  · have he : addS S x = S ++ [⟨x, 1, 0, 1, true⟩] := by unfold addS; rw [hasS_no hk]; rfl
    rw [he]
    refine ⟨h.innew hk hx (by decide) (by decide), fun e he => ?_⟩
    rcases List.mem_append.1 he with h2 | h2
    · exact h1 e h2
    · rw [List.mem_singleton.1 h2]
  · obtain ⟨hm, hn⟩ := at_mem hk
    have he : addS S x = S := by unfold addS; rw [hasS_yes hk]; rfl
    have e1 := h1 e hm
    rw [he]
    refine ⟨⟨fun y => ?_, fun y => ?_, h.nd, h.ok⟩, h1⟩
    · unfold upd
      split
      · rename_i q; rw [q, look_at hk, e1]; rfl
      · exact h.g y
    · unfold upd
      split
      · rename_i q; rw [q, look_at hk, e1]; rfl
      · exact h.f y
theorem PR.news_ : ∀ (l : List Int) {F G : Int → Option Int} {S : List Wd}, In64 l → PR F G S → (∀ e ∈ S, e = ⟨e.nd, 1, 0, 1, true⟩) → PR (l.foldl (fun F x => upd F x 0) F) (l.foldl (fun F x => upd F x 1) G) (l.foldl addS S)
  | [], _, _, _, _, h, _ => h
  | a :: r, _, _, _, hi, h, h1 => by
    obtain ⟨h2, h3⟩ := h.adds h1 a (hi a (by simp))
    exact PR.news_ r (fun x hx => hi x (List.mem_cons_of_mem _ hx)) h2 h3
theorem PR.new (l : List Int) (hi : In64 l) : PR (newF l) (newG l) (newS l) := PR.news_ l hi PR.nil (fun _ h => by cases h)

/-- Late is the same. -/
theorem PR.late {F G : Int → Option Int} {S : List Wd} (h : PR F G S) (wt now x : Int) : lateS F wt now x ↔ rlateS S (max 1 wt) now x := by
  unfold lateS rlateS lateP lcW
  refine and_congr_right fun hq => ?_
  simp only [okT, decide_eq_true_eq] at hq
  constructor
  · rintro ⟨hx, t, h1, h2⟩
    rw [h.f x] at h1
    cases hl : look S x with
    | none => rw [hl] at h1; cases h1
    | some e =>
      rw [hl] at h1
      obtain ⟨hm, hn⟩ := look_mem hl
      simp only [Option.bind_some, atW] at h1
      obtain ⟨o1, o2, o3, _⟩ := h.ok e hm
      split at h1
      · rename_i hi
        cases h1
        refine ⟨e, hm, ?_, hn⟩
        simp only [hi, Bool.true_and, Bool.and_eq_true, decide_eq_true_eq]
        omega
      · cases h1
  · rintro ⟨e, hm, h1, rfl⟩
    simp only [Bool.and_eq_true, decide_eq_true_eq] at h1
    refine ⟨(h.ok e hm).2.2.2.1, e.at', ?_, h1.2.2⟩
    rw [h.f, mem_look h.nd hm]
    simp [atW, h1.1]
/-- Life is the same. -/
theorem PR.life {F G : Int → Option Int} {S : List Wd} (h : PR F G S) {x : Int} {k : Nat} {e : Wd} (hk : AtP S x k e) : (if (F x).isSome then (G x).getD 0 else 0) = (if e.inn then e.lf else 0) ∧ (F x).isSome = e.inn := by
  have h1 := look_at hk
  have h2 := (h.ok e (at_mem hk).1).1
  rw [h.f x, h.g x, h1, h2]
  simp only [Option.bind_some, Option.map_some, Option.getD_some, atW]
  by_cases hi : e.inn = true <;> simp [hi]
theorem PR.lifen {F G : Int → Option Int} {S : List Wd} (h : PR F G S) {x : Int} (hk : NoP S x) : (F x).isSome = false := by
  rw [h.f x, look_no hk]; rfl
end beatPlays
end Go.Proofs.Ytcfenakafcfjbaa
