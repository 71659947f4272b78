/- A job that is taken: each state that a run comes to fits it, and no step is impossible. -/
import Derived.Test.YtnkfdpnommjlcaaGreatDoorDepP
import Derived.Test.YtnkfdpnommjlcaaGreatDoorStpM
import Derived.Test.YtnkfdpnommjlcaaGreatDoorAlive
namespace Go.Proofs.YtnkfdpnommjlcaaGreatDoor
open Go.RowKit Go.ChangeShapes Go.WideShapes Go.ChangeAt Go.Deep

/-- Instruction p, where the depth ahead of it is v, may be gone over, and those behind it find what it leaves. -/
def Fits (ns : List Int) (code : List (Int × Int)) (d : List Int) (p : Nat) : Prop :=
  ∃ beh, behL ns (code.getD p (0, 0)) (d.getD p 0) = some beh ∧ ∀ t ∈ nextL (code.getD p (0, 0)).1 (code.getD p (0, 0)).2 ((p + 1 : Nat) : Int), hasB code.length t = true ∧ d.getD t.toNat 0 = beh

theorem getD_set_ne {α : Type} (d : List α) (k q : Nat) (v x : α) (h : q ≠ k) : (d.set k v).getD q x = d.getD q x := by
  simp [List.getD, Ne.symm h]
theorem getD_set_eq {α : Type} (d : List α) (k : Nat) (v x : α) (h : k < d.length) : (d.set k v).getD k x = v := by
  simp [List.getD, h]

theorem nextGo_keep (n : Nat) (beh : Int) (hb : 0 ≤ beh) : ∀ (L d : List Int) (l : Nat) (d' : List Int) (l' : Nat), d.length = n → nextGo n beh L d l = .ok (d', l') →
    d'.length = n ∧ l' ≤ l ∧ (∀ t ∈ L, hasB n t = true ∧ d'.getD t.toNat 0 = beh) ∧ (∀ q, d.getD q 0 ≠ -1 → d'.getD q 0 = d.getD q 0) ∧ ∀ q, q < l' → d'.getD q 0 = d.getD q 0
  | [], d, l, d', l', hn, h => by
    simp [nextGo] at h
    obtain ⟨rfl, rfl⟩ := h
    exact ⟨hn, Nat.le_refl _, (fun t ht => by cases ht), fun _ _ => rfl, fun _ _ => rfl⟩
  | t :: ts, d, l, d', l', hn, h => by
    rw [nextGo] at h
    split at h
    · rename_i hh
      have ht : t.toNat < d.length := by
        simp [hasB, inB] at hh
        omega
      split at h
      · rename_i hm
        obtain ⟨e1, e2, e3, e4, e5⟩ := nextGo_keep n beh hb ts (d.set t.toNat beh) (min l t.toNat) d' l' (by simpa using hn) h
        refine ⟨e1, by omega, fun x hx => ?_, fun q hq => ?_, fun q hq => ?_⟩
        · rcases List.mem_cons.1 hx with rfl | hx
          · have hs := getD_set_eq d x.toNat beh 0 ht
            exact ⟨hh, by rw [e4 _ (by rw [hs]; omega), hs]⟩
          · exact e3 x hx
        · have hne : q ≠ t.toNat := fun e => hq (by rw [e]; exact hm)
          have hs := getD_set_ne d t.toNat q beh 0 hne
          rw [e4 q (by rw [hs]; exact hq), hs]
        · have hne : q ≠ t.toNat := by omega
          rw [e5 q hq, getD_set_ne d t.toNat q beh 0 hne]
      · split at h
        · rename_i hm hq
          obtain ⟨e1, e2, e3, e4, e5⟩ := nextGo_keep n beh hb ts d l d' l' hn h
          refine ⟨e1, e2, fun x hx => ?_, e4, e5⟩
          rcases List.mem_cons.1 hx with rfl | hx
          · exact ⟨hh, by rw [e4 _ hm]; exact hq⟩
          · exact e3 x hx
        · cases h
    · cases h

theorem leastFrom_all (d : List Int) (g : List Bool) : ∀ (m l q : Nat), l ≤ q → q < leastFrom d g m l → d.getD q 0 = -1 ∨ g.getD q true = true
  | 0, l, q, h1, h2 => by
    rw [leastFrom] at h2
    omega
  | m + 1, l, q, h1, h2 => by
    rw [leastFrom] at h2
    split at h2
    · rename_i hc
      rcases Nat.lt_or_ge l q with h | h
      · exact leastFrom_all d g m (l + 1) q h h2
      · obtain rfl : q = l := by omega
        exact hc.2
    · omega

theorem walkL_fits {ns : List Int} {code : List (Int × Int)} : ∀ (k : Nat) (d : List Int) (g : List Bool) (low : Nat) (r : List Int), d.length = code.length → g.length = code.length → Deps d → low ≤ code.length →
    (∀ p, p < code.length → g.getD p true = true → d.getD p 0 ≠ -1 ∧ Fits ns code d p) → (∀ q, q < low → d.getD q 0 = -1 ∨ g.getD q true = true) → g.count false < k → walkL ns code k d g low = .ok r →
    r.length = code.length ∧ Deps r ∧ (∀ p, p < code.length → r.getD p 0 ≠ -1 → Fits ns code r p) ∧ ∀ q, d.getD q 0 ≠ -1 → r.getD q 0 = d.getD q 0
  | 0, d, g, low, r, _, _, _, _, _, _, hk, _ => absurd hk (by omega)
  | k + 1, d, g, low, r, hd, hg, hD, hl, hA, hB, hk, h => by
    obtain ⟨s1, s2, s3⟩ := leastFrom_spec d g d.length low (by omega) (by omega)
    have hall := leastFrom_all d g d.length low
    rw [walkL] at h
    generalize leastFrom d g d.length low = p at h s1 s2 s3 hall
    have hpre : ∀ q, q < p → d.getD q 0 = -1 ∨ g.getD q true = true := fun q hq => by
      rcases Nat.lt_or_ge q low with h' | h'
      · exact hB q h'
      · exact hall q h' hq
    split at h
    · rename_i hp
      obtain ⟨hp1, hp2⟩ := passed_no hD hp (s3 hp)
      split at h
      · cases h
      · rename_i d' low' ho
        obtain ⟨o1, o2, o3⟩ := overL_bound ho hD
        unfold overL at ho
        cases hb : behL ns (code.getD p (0, 0)) (d.getD p 0) with
        | none => rw [hb] at ho; cases ho
        | some beh =>
          rw [hb] at ho
          obtain ⟨e1, e2, e3, e4, e5⟩ := nextGo_keep _ beh (behL_bound hb).1 _ d p d' low' hd ho
          have hdp : d'.getD p 0 = d.getD p 0 := e4 p (by omega)
          have hpg : p < g.length := by omega
          have hfp : Fits ns code d' p := ⟨beh, by rw [hdp]; exact hb, e3⟩
          obtain ⟨r1, r2, r3, r4⟩ := walkL_fits k d' (g.set p true) low' r (by omega) (by simpa using hg) o1 (by omega) (fun q hq hgq => by
            by_cases hqp : q = p
            · subst hqp
              exact ⟨by rw [hdp]; omega, hfp⟩
            · rw [getD_set_ne g p q true true hqp] at hgq
              obtain ⟨a1, b, a2, a3⟩ := hA q hq hgq
              have hq' := e4 q a1
              refine ⟨by rw [hq']; exact a1, b, by rw [hq']; exact a2, fun t ht => ?_⟩
              obtain ⟨c1, c2⟩ := a3 t ht
              exact ⟨c1, by rw [e4 _ (by rw [c2]; have := (behL_bound a2).1; omega), c2]⟩)
            (fun q hq => by
              by_cases hqp : q = p
              · omega
              · rcases hpre q (by omega) with h' | h'
                · exact .inl (by rw [e5 q hq]; exact h')
                · exact .inr (by rw [getD_set_ne g p q true true hqp]; exact h'))
            (by have := count_set g p hpg hp2; omega) h
          exact ⟨r1, r2, r3, fun q hq => by rw [r4 q (by rw [e4 q hq]; exact hq), e4 q hq]⟩
    · cases h
      refine ⟨hd, hD, fun q hq hne => ?_, fun _ _ => rfl⟩
      rcases hpre q (by omega) with h' | h'
      · exact absurd h' hne
      · exact (hA q hq h').2

/-- Depths that are given are right. -/
theorem depths_fits {ns : List Int} {code : List (Int × Int)} {d : List Int} (h : depthsL ns code = .ok d) (h0 : 0 < code.length) :
    d.length = code.length ∧ Deps d ∧ d.getD 0 0 = 0 ∧ ∀ p, p < code.length → d.getD p 0 ≠ -1 → Fits ns code d p := by
  have hz := getD_set_eq (List.replicate code.length (-1 : Int)) 0 0 0 (by simpa using h0)
  obtain ⟨r1, r2, r3, r4⟩ := walkL_fits (ns := ns) (code := code) (code.length + 1) _ (List.replicate code.length false) 0 d (by simp) (by simp)
    (Deps.set (fun v hv => by rw [List.eq_of_mem_replicate hv]; decide) 0 (by decide)) (by omega)
    (fun p hp hg => by simp [List.getD, hp] at hg) (fun q hq => absurd hq (by omega)) (by rw [List.count_replicate_self]; omega) h
  exact ⟨r1, r2, by rw [r4 0 (by rw [hz]; decide), hz], r3⟩
end Go.Proofs.YtnkfdpnommjlcaaGreatDoor
namespace Go.Proofs.YtnkfdpnommjlcaaGreatDoor
open Go.RowKit Go.ChangeShapes Go.WideShapes Go.ChangeAt Go.Deep

/-- A function of a job that is taken, and its depths. -/
structure Code (fs : List Fun) (f : Fun) (d : List Int) : Prop where
  n1 : 1 ≤ f.code.length ∧ f.code.length ≤ 256
  lo : 0 ≤ f.args ∧ f.args ≤ f.locals ∧ f.locals ≤ 16
  ar : ∀ g ∈ fs, 0 ≤ g.args ∧ g.args ≤ 8
  ins : ∀ x ∈ f.code, insErr f.locals f.code.length fs.length x.1 x.2 = 0
  dl : d.length = f.code.length
  dd : Deps d
  d0 : d.getD 0 0 = 0
  fits : ∀ p, p < f.code.length → d.getD p 0 ≠ -1 → Fits (fs.map Fun.args) f.code d p

theorem all_insErr {lo : Int} {nc nf : Nat} : ∀ (c : List (Int × Int)) (k : Nat), (insFrom lo nc nf k c).2 = 0 → ∀ x ∈ c, insErr lo nc nf x.1 x.2 = 0
  | [], _, _, x, hx => by cases hx
  | i :: r, k, h, x, hx => by
    unfold insFrom at h
    split at h
    · rename_i h0
      rcases List.mem_cons.1 hx with rfl | hx
      · exact h0
      · exact all_insErr r (k + 1) h x hx
    · rename_i h0; exact absurd h h0
theorem head_nums {fs : List Fun} {k : Nat} {f : Fun} (h : headErr fs k f = 0) : (0 ≤ f.args ∧ f.args ≤ 8) ∧ (f.args ≤ f.locals ∧ f.locals ≤ 16) ∧ 1 ≤ f.code.length ∧ f.code.length ≤ 256 := by
  unfold headErr at h
  split at h
  · cases h
  · split at h
    · cases h
    · split at h
      · cases h
      · split at h
        · cases h
        · rename_i h2 h3 h4
          simp [inB] at h2 h3 h4
          omega
/-- The functions of a job that is taken. -/
theorem code_of {fs : List Fun} {main : Int} {na : Nat} {fuel tasks : Int} (h : (checkL fs main na fuel tasks).2.2 = 0) {k : Nat} {f : Fun} (hk : fs[k]? = some f) :
    Code fs f (depsOf fs main na fuel tasks (k : Int)) := by
  have hg := (check_good h).2
  have hf := func_good hg hk
  rw [Nat.zero_add] at hf
  obtain ⟨h1, d0, h2⟩ := func_parts hf
  obtain ⟨a1, a2, a3⟩ := head_nums h1
  obtain ⟨_, d, h4, h5⟩ := deps_at h hk
  rw [h5]
  obtain ⟨b1, b2, b3, b4⟩ := depths_fits h4 (by omega)
  refine ⟨a3, ⟨a1.1, a2.1, a2.2⟩, fun g hgm => ?_, ?_, b1, b2, b3, b4⟩
  · obtain ⟨i, hi, rfl⟩ := List.mem_iff_getElem.1 hgm
    have := func_good hg (List.getElem?_eq_getElem hi)
    rw [Nat.zero_add] at this
    exact (head_nums (func_parts this).1).1
  · unfold funcErr at hf
    rw [if_neg (by rw [h1]; simp)] at hf
    split at hf
    · rename_i h6; exact absurd hf h6
    · rename_i h6
      exact all_insErr _ 0 (by simpa using h6)

/-- The machine stands where the function's depths say. -/
structure Fit (fs : List Fun) (f : Fun) (d : List Int) (s : PM) : Prop where
  fn : fs[s.fn]? = some f
  pc : d[s.pc]? = some (s.sk.length : Int)
  lo : (s.lo.length : Int) = f.locals
  kd : 0 ≤ s.kd ∧ s.kd ≤ 16

theorem Fit.pcl {fs : List Fun} {f : Fun} {d : List Int} {s : PM} (hc : Code fs f d) (h : Fit fs f d s) : s.pc < f.code.length ∧ d.getD s.pc 0 = (s.sk.length : Int) ∧ s.sk.length ≤ 32 := by
  have hlt : s.pc < d.length := by
    rcases Nat.lt_or_ge s.pc d.length with q | q
    · exact q
    · have := h.pc
      rw [List.getElem?_eq_none q] at this; cases this
  have hp := h.pc
  rw [List.getElem?_eq_getElem hlt] at hp
  have he := Option.some.inj hp
  have := hc.dd _ (List.getElem_mem hlt)
  refine ⟨by rw [← hc.dl]; exact hlt, by simp [List.getD, h.pc], by omega⟩

theorem fit_to {fs : List Fun} {f : Fun} {d : List Int} (hc : Code fs f d) {s t : PM} (hs : Fit fs f d s) (h1 : t.fn = s.fn) (h2 : t.lo.length = s.lo.length) (h3 : t.kd = s.kd) (x : Int) (hx : hasB f.code.length x = true ∧ d.getD x.toNat 0 = (t.sk.length : Int)) (h4 : t.pc = x.toNat) : Fit fs f d t := by
  refine ⟨by rw [h1]; exact hs.fn, ?_, by rw [h2]; exact hs.lo, by rw [h3]; exact hs.kd⟩
  have hb := hx.1
  simp [hasB, inB] at hb
  have hlt : x.toNat < d.length := by rw [hc.dl]; omega
  rw [h4, List.getElem?_eq_getElem hlt]
  have := hx.2
  simp [List.getD, hlt] at this
  rw [this]

theorem insErr_op {lo : Int} {nc nf : Nat} {op n : Int} (h : insErr lo nc nf op n = 0) : 1 ≤ op ∧ op ≤ 19 := by
  by_cases h1 : 1 ≤ op ∧ op ≤ 19
  · exact h1
  · have e : kindOf op = noKind := by unfold kindOf; rw [if_neg h1]
    unfold insErr at h
    rw [e, if_pos (by rw [show noKind.word.toList.isEmpty = true from by kernel_rfl]; rfl)] at h
    cases h
theorem insErr_lo {lo : Int} {nc nf : Nat} {op n : Int} (h : insErr lo nc nf op n = 0) (ho : op = 5 ∨ op = 6) : hasB lo n = true := by
  unfold insErr at h
  split at h
  · cases h
  · try rw [if_pos ho] at h
    cases hb : hasB lo n with
    | true => rfl
    | false => rw [hb] at h; simp at h
theorem insErr_fn {lo : Int} {nc nf : Nat} {n : Int} (h : insErr lo nc nf 16 n = 0) : hasB nf n = true := by
  unfold insErr at h
  split at h
  · cases h
  · rw [if_neg (by decide), if_neg (by decide), if_pos rfl] at h
    cases hb : hasB nf n with
    | true => rfl
    | false => rw [hb] at h; simp at h

theorem beh_parts {ns : List Int} {op n dep beh : Int} (h : behL ns (op, n) dep = some beh) : popsOf op n ns ≤ dep ∧ beh = dep - popsOf op n ns + (kindOf op).pushes := by
  unfold behL at h
  split at h
  · rename_i hi
    simp [inB] at hi
    cases h
    exact ⟨hi.2, rfl⟩
  · cases h

theorem plL_some {op n : Int} {sk : List Int} (ho : (1 ≤ op ∧ op ≤ 4) ∨ (7 ≤ op ∧ op ≤ 13)) (hp : (kindOf op).pops ≤ (sk.length : Int)) :
    plL op n sk = some none ∨ ∃ sk', plL op n sk = some (some sk') ∧ (sk'.length : Int) = sk.length - (kindOf op).pops + (kindOf op).pushes := by
  have two : ∀ {l : List Int}, (2 : Int) ≤ (l.length : Int) → ∃ y x r, l = y :: x :: r := fun {l} hl => by
    match l, hl with
    | y :: x :: r, _ => exact ⟨y, x, r, rfl⟩
    | [_], h => simp at h
    | [], h => simp at h
  have one : ∀ {l : List Int}, (1 : Int) ≤ (l.length : Int) → ∃ x r, l = x :: r := fun {l} hl => by
    match l, hl with
    | x :: r, _ => exact ⟨x, r, rfl⟩
    | [], h => simp at h
  rcases ho with ho | ho
  · have h4 : op = 1 ∨ op = 2 ∨ op = 3 ∨ op = 4 := by omega
    rcases h4 with rfl | rfl | rfl | rfl
    · exact .inr ⟨n :: sk, rfl, by rw [show (kindOf 1).pops = 0 from by decide, show (kindOf 1).pushes = 1 from by decide]; simp⟩
    · rw [show (kindOf 2).pops = 1 from by decide] at hp
      obtain ⟨x, r, rfl⟩ := one hp
      exact .inr ⟨r, rfl, by rw [show (kindOf 2).pops = 1 from by decide, show (kindOf 2).pushes = 0 from by decide]; simp⟩
    · rw [show (kindOf 3).pops = 1 from by decide] at hp
      obtain ⟨x, r, rfl⟩ := one hp
      exact .inr ⟨x :: x :: r, rfl, by rw [show (kindOf 3).pops = 1 from by decide, show (kindOf 3).pushes = 2 from by decide]; simp <;> omega⟩
    · rw [show (kindOf 4).pops = 2 from by decide] at hp
      obtain ⟨y, x, r, rfl⟩ := two hp
      exact .inr ⟨x :: y :: r, rfl, by rw [show (kindOf 4).pops = 2 from by decide, show (kindOf 4).pushes = 2 from by decide]; simp <;> omega⟩
  · have e : (kindOf op).pops = 2 ∧ (kindOf op).pushes = 1 := by
      have h7 : op = 7 ∨ op = 8 ∨ op = 9 ∨ op = 10 ∨ op = 11 ∨ op = 12 ∨ op = 13 := by omega
      rcases h7 with rfl | rfl | rfl | rfl | rfl | rfl | rfl <;> decide
    rw [e.1] at hp ⊢
    rw [e.2]
    obtain ⟨y, x, r, rfl⟩ := two hp
    have ep : plL op n (y :: x :: r) = some ((rekL op x y).map (· :: r)) := by
      unfold plL
      rw [if_neg (by omega), if_neg (by omega), if_neg (by omega), if_neg (by omega), if_pos ho]
    rw [ep]
    cases rekL op x y with
    | none => exact .inl rfl
    | some v => exact .inr ⟨v :: r, rfl, by simp; omega⟩

/-- What a step leaves: where there is no event, the machine fits, and nothing of the event has turned. -/
def Leaves (fs : List Fun) (f : Fun) (d : List Int) (s : PM) (fu es : Nat) (q : PM × Option (Int × Int)) : Prop :=
  ∀ t, q = (t, none) → t.fu = fu ∧ t.es = es ∧ (t.ek = 0 → Fit fs f d t ∧ t.wt = s.wt ∧ t.ef = s.ef ∧ t.ei = s.ei ∧ t.ar = s.ar ∧ t.er = s.er ∧ t.ev = s.ev)

theorem doM_fits {fs : List Fun} {f : Fun} {d : List Int} (hc : Code fs f d) {s : PM} (hs : Fit fs f d s) (deep op n : Int) (hi : f.code[s.pc]? = some (op, n)) :
    ∃ q, doM fs deep s op n = some q ∧ Leaves fs f d s s.fu s.es q := by
  obtain ⟨hpc, hdp, hsk⟩ := hs.pcl hc
  have hgi : f.code.getD s.pc (0, 0) = (op, n) := by simp [List.getD, hi]
  have hmem : (op, n) ∈ f.code := List.mem_of_getElem? hi
  have hie := hc.ins _ hmem
  dsimp only at hie
  have hop := insErr_op hie
  obtain ⟨beh, hb, hnx⟩ := hc.fits s.pc hpc (by rw [hdp]; omega)
  rw [hgi, hdp] at hb
  rw [hgi] at hnx
  dsimp only at hnx
  obtain ⟨b1, b2⟩ := beh_parts hb
  have pops : op ≠ 16 → popsOf op n (fs.map Fun.args) = (kindOf op).pops := fun h => by unfold popsOf; rw [if_neg h]
  have one : ∀ {l : List Int}, (1 : Int) ≤ (l.length : Int) → ∃ x r, l = x :: r := fun {l} hl => by
    match l, hl with
    | x :: r, _ => exact ⟨x, r, rfl⟩
    | [], h => simp at h
  have nxt : (1 ≤ op ∧ op ≤ 13) → hasB f.code.length ((s.pc + 1 : Nat) : Int) = true ∧ d.getD (s.pc + 1) 0 = beh := fun h => by
    have := hnx ((s.pc + 1 : Nat) : Int) (by
      unfold nextL
      rw [if_neg (by omega), if_neg (by omega), if_neg (by omega)]
      simp)
    simpa using this
  have plain : ((1 ≤ op ∧ op ≤ 4) ∨ (7 ≤ op ∧ op ≤ 13)) → ∃ q, doM fs deep s op n = some q ∧ Leaves fs f d s s.fu s.es q := fun ho => by
    have e : doM fs deep s op n = (match plL op n s.sk with
      | some (some sk') => some ({ s with sk := sk', pc := s.pc + 1 }, none)
      | some none => some (s, some (20, 0))
      | none => none) := by
      unfold doM
      rw [if_neg (by omega), if_neg (by omega), if_neg (by omega), if_neg (by omega), if_neg (by omega), if_neg (by omega), if_neg (by omega), if_neg (by omega)]
      cases plL op n s.sk with
      | none => rfl
      | some o => cases o <;> rfl
    rw [e]
    rw [pops (by omega)] at b1 b2
    rcases plL_some (n := n) ho b1 with h | ⟨sk', h, hl⟩
    · rw [h]
      exact ⟨_, rfl, fun t ht => by simp at ht⟩
    · rw [h]
      refine ⟨_, rfl, fun t ht => ?_⟩
      obtain rfl := (Prod.mk.inj ht).1
      have hx := nxt (by omega)
      exact ⟨rfl, rfl, fun _ => ⟨fit_to hc hs rfl rfl rfl ((s.pc + 1 : Nat) : Int) ⟨hx.1, by rw [Int.toNat_natCast, hx.2, b2]; exact hl.symm⟩ (by simp), rfl, rfl, rfl, rfl, rfl, rfl⟩⟩
  by_cases ho : (1 ≤ op ∧ op ≤ 4) ∨ (7 ≤ op ∧ op ≤ 13)
  · exact plain ho
  have h8 : op = 5 ∨ op = 6 ∨ op = 14 ∨ op = 15 ∨ op = 16 ∨ op = 17 ∨ op = 18 ∨ op = 19 := by omega
  clear plain
  rcases h8 with rfl | rfl | rfl | rfl | rfl | rfl | rfl | rfl
  · -- load
    have hn := insErr_lo hie (.inl rfl)
    simp [hasB, inB] at hn
    have hll := hs.lo
    have hlt : n.toNat < s.lo.length := by omega
    rw [pops (by decide), show (kindOf 5).pops = 0 from by decide, show (kindOf 5).pushes = 1 from by decide] at b2
    have hx := nxt (by omega)
    refine ⟨({ s with sk := s.lo[n.toNat] :: s.sk, pc := s.pc + 1 }, none), ?_, fun t ht => ?_⟩
    · unfold doM
      simp [hn.1, List.getElem?_eq_getElem hlt]
    · obtain rfl := (Prod.mk.inj ht).1
      exact ⟨rfl, rfl, fun _ => ⟨fit_to hc hs rfl rfl rfl ((s.pc + 1 : Nat) : Int) ⟨hx.1, by rw [Int.toNat_natCast, hx.2, b2]; simp⟩ (by simp), rfl, rfl, rfl, rfl, rfl, rfl⟩⟩
  · -- store
    have hn := insErr_lo hie (.inr rfl)
    simp [hasB, inB] at hn
    have hll := hs.lo
    have hlt : n.toNat < s.lo.length := by omega
    rw [pops (by decide), show (kindOf 6).pops = 1 from by decide] at b1 b2
    rw [show (kindOf 6).pushes = 0 from by decide] at b2
    obtain ⟨x, r, hsk'⟩ := one b1
    have hx := nxt (by omega)
    refine ⟨({ s with lo := s.lo.set n.toNat x, sk := r, pc := s.pc + 1 }, none), ?_, fun t ht => ?_⟩
    · unfold doM
      rw [hsk']
      simp [hn.1, hlt]
    · obtain rfl := (Prod.mk.inj ht).1
      exact ⟨rfl, rfl, fun _ => ⟨fit_to hc hs rfl (by simp) rfl ((s.pc + 1 : Nat) : Int) ⟨hx.1, by rw [Int.toNat_natCast, hx.2, b2, hsk']; simp⟩ (by simp), rfl, rfl, rfl, rfl, rfl, rfl⟩⟩
  · -- jump
    rw [pops (by decide), show (kindOf 14).pops = 0 from by decide, show (kindOf 14).pushes = 0 from by decide] at b2
    have hx := hnx n (by unfold nextL; rw [if_neg (by decide), if_pos rfl]; simp)
    have hn := hx.1
    simp [hasB, inB] at hn
    refine ⟨({ s with pc := n.toNat }, none), ?_, fun t ht => ?_⟩
    · unfold doM
      simp [hn.1]
    · obtain rfl := (Prod.mk.inj ht).1
      exact ⟨rfl, rfl, fun _ => ⟨fit_to hc hs rfl rfl rfl n ⟨hx.1, by rw [hx.2, b2]; simp⟩ rfl, rfl, rfl, rfl, rfl, rfl, rfl⟩⟩
  · -- zero
    rw [pops (by decide), show (kindOf 15).pops = 1 from by decide] at b1 b2
    rw [show (kindOf 15).pushes = 0 from by decide] at b2
    obtain ⟨x, r, hsk'⟩ := one b1
    have hx1 := hnx ((s.pc + 1 : Nat) : Int) (by
      unfold nextL
      rw [if_neg (by decide), if_neg (by decide)]
      split <;> simp)
    have hx2 := hnx n (by
      unfold nextL
      rw [if_neg (by decide), if_neg (by decide)]
      split
      · simp
      · rename_i h
        have : n = ((s.pc + 1 : Nat) : Int) := by
          by_cases e : n = ((s.pc + 1 : Nat) : Int)
          · exact e
          · exact absurd ⟨rfl, e⟩ h
        rw [← this]; simp)
    have hn := hx2.1
    simp [hasB, inB] at hn
    by_cases h0 : x = 0
    · refine ⟨({ s with pc := n.toNat, sk := r }, none), ?_, fun t ht => ?_⟩
      · unfold doM
        rw [hsk']
        simp [h0, hn.1]
      · obtain rfl := (Prod.mk.inj ht).1
        exact ⟨rfl, rfl, fun _ => ⟨fit_to hc hs rfl rfl rfl n ⟨hx2.1, by rw [hx2.2, b2, hsk']; simp⟩ rfl, rfl, rfl, rfl, rfl, rfl, rfl⟩⟩
    · refine ⟨({ s with pc := s.pc + 1, sk := r }, none), ?_, fun t ht => ?_⟩
      · unfold doM
        rw [hsk']
        simp [h0]
      · obtain rfl := (Prod.mk.inj ht).1
        exact ⟨rfl, rfl, fun _ => ⟨fit_to hc hs rfl rfl rfl ((s.pc + 1 : Nat) : Int) ⟨hx1.1, by rw [hx1.2, b2, hsk']; simp⟩ (by simp), rfl, rfl, rfl, rfl, rfl, rfl⟩⟩
  · -- spawn
    have hn := insErr_fn hie
    simp [hasB, inB] at hn
    have hlt : n.toNat < fs.length := by omega
    have har := hc.ar _ (List.getElem_mem hlt)
    have e : popsOf 16 n (fs.map Fun.args) = fs[n.toNat].args := by
      unfold popsOf argsOf
      rw [if_pos rfl, if_pos ⟨hn.1, by simpa using by omega⟩]
      simp [hlt]
    rw [e] at b1
    by_cases hd : deep < 12
    · by_cases hk : s.kd < 16
      · refine ⟨_, by
          unfold doM
          rw [if_neg (by decide), if_neg (by decide), if_pos rfl, if_pos hd, if_pos hk, if_pos hn.1, List.getElem?_eq_getElem hlt]
          dsimp only
          rw [if_pos ⟨har.1, by omega⟩], fun t ht => ?_⟩
        obtain rfl := (Prod.mk.inj ht).1
        exact ⟨rfl, rfl, fun h => by cases h⟩
      · exact ⟨_, by
          unfold doM
          rw [if_neg (by decide), if_neg (by decide), if_pos rfl, if_pos hd, if_neg hk], fun t ht => by simp at ht⟩
    · exact ⟨_, by
        unfold doM
        rw [if_neg (by decide), if_neg (by decide), if_pos rfl, if_neg hd], fun t ht => by simp at ht⟩
  · -- await
    rw [pops (by decide), show (kindOf 17).pops = 1 from by decide] at b1
    obtain ⟨x, r, hsk'⟩ := one b1
    by_cases hh : hasB s.kd x = true
    · refine ⟨({ s with wt := true, ek := 2, ei := x }, none), ?_, fun t ht => ?_⟩
      · unfold doM
        rw [hsk']
        simp [hh]
      · obtain rfl := (Prod.mk.inj ht).1
        exact ⟨rfl, rfl, fun h => by cases h⟩
    · refine ⟨(s, some (24, 0)), ?_, fun t ht => by simp at ht⟩
      unfold doM
      rw [hsk']
      simp [hh]
  · -- ret
    rw [pops (by decide), show (kindOf 18).pops = 1 from by decide] at b1
    obtain ⟨x, r, hsk'⟩ := one b1
    refine ⟨({ s with ek := 3, er := 0, ev := x }, none), ?_, fun t ht => ?_⟩
    · unfold doM
      rw [hsk']
      simp
    · obtain rfl := (Prod.mk.inj ht).1
      exact ⟨rfl, rfl, fun h => by cases h⟩
  · -- fail
    rw [pops (by decide), show (kindOf 19).pops = 1 from by decide] at b1
    obtain ⟨x, r, hsk'⟩ := one b1
    refine ⟨(s, some (25, x)), ?_, fun t ht => by simp at ht⟩
    unfold doM
    rw [hsk']
    simp
end Go.Proofs.YtnkfdpnommjlcaaGreatDoor
