/- Calls one behind the other: plain. -/
import Derived.Test.YtaooglcjcnkgnaaThr
import Derived.Test.YtaooglcjcnkgnaaOnc
namespace Go.Proofs.Ytaooglcjcnkgnaa
open Go.RowKit Go.ChangeShapes Go.WideShapes Go.ChangeAt Go.Deep

theorem busy_nat {d : Dq} {p : Nat} (hp : p < 16) (hk : (d.c p).k ≠ 0) : busyD d (p : Int) = true := by
  unfold busyD
  rw [decide_eq_true (show (0 : Int) ≤ (p : Int) ∧ (p : Int) < 16 by omega), Int.toNat_natCast]
  simpa using hk

theorem stepD_nat {d : Dq} {p : Nat} (hp : p < 16) (hk : (d.c p).k ≠ 0) : stepD d (p : Int) = stepB d p := by
  rw [(stepD_busy (busy_nat hp hk)).1, Int.toNat_natCast]

/-- One step more of a call. -/
theorem steps_go {d : Dq} {p k : Nat} {v : Int} {d' : Dq} (hp : p < 16) (hk : (d.c p).k ≠ 0) (h : stepB d p = (0, v, d')) : stepsD d (p : Int) (k + 1) = stepsD d' (p : Int) k := by
  show (if (stepD d (p : Int)).1 = 0 then stepsD (stepD d (p : Int)).2.2 (p : Int) k else stepD d (p : Int)) = _
  rw [stepD_nat hp hk, h, if_pos rfl]

theorem steps_end {d : Dq} {p k : Nat} {a v : Int} {d' : Dq} (hp : p < 16) (hk : (d.c p).k ≠ 0) (h : stepB d p = (a, v, d')) (ha : a ≠ 0) : stepsD d (p : Int) (k + 1) = (a, v, d') := by
  show (if (stepD d (p : Int)).1 = 0 then stepsD (stepD d (p : Int)).2.2 (p : Int) k else stepD d (p : Int)) = _
  rw [stepD_nat hp hk, h, if_neg ha]

theorem J.go {d : Dq} {H : List Int} (h : J d H) {p : Nat} (hk : (d.c p).k ≠ 0) (hb : d.bot ≤ 30000) {a v : Int} {d' : Dq} (e : Go.Proofs.Ytaooglcjcnkgnaa.stepB d p = (a, v, d')) (ha : a ≠ 2) : J d' H ∧ (p = 0 → (d.c 0).k = 2 → a = 3 → H = []) := by
  obtain ⟨H', hS⟩ := h.stepB hk hb
  rw [e] at hS
  have h1 := hS.j
  have h2 := hS.same ha
  rw [h2] at h1
  exact ⟨h1, fun a1 a2 a3 => by rw [← h2]; exact hS.none a1 a2 a3⟩

theorem J.got {d : Dq} {H : List Int} (h : J d H) {p : Nat} (hk : (d.c p).k ≠ 0) (hb : d.bot ≤ 30000) {v : Int} {d' : Dq} (e : Go.Proofs.Ytaooglcjcnkgnaa.stepB d p = (2, v, d')) : ∃ H', J d' H' ∧ (p = 0 → H = H' ++ [v]) ∧ (p ≠ 0 → H = v :: H') := by
  obtain ⟨H', hS⟩ := h.stepB hk hb
  rw [e] at hS
  exact ⟨H', hS.j, hS.item0 rfl, hS.itemp rfl⟩

/-- Nobody has a call; R stands there. -/
structure Al (d : Dq) (R : List Int) : Prop where
  z : ∀ p, d.c p = Cl.zero
  j : J d R

theorem Al.zero : Al Dq.zero [] := ⟨fun _ => rfl, J.zero⟩
theorem Al.items {d : Dq} {R : List Int} (h : Al d R) : itemsD d = R := (h.j.items (by rw [h.z]; rfl)).symm

theorem mk_z {d : Dq} (hz : ∀ p, d.c p = Cl.zero) (p : Nat) (top bot : Int) (n : Nat) (L : List Int) : ∀ q, (d.mk' p top bot n L Cl.zero).c q = Cl.zero := by
  intro q
  by_cases e : q = p
  · subst e; exact mk_c ..
  · rw [mk_o _ _ _ _ _ _ _ _ e]; exact hz q

theorem mk_mk (d : Dq) (p : Nat) (top bot top' bot' : Int) (n n' : Nat) (L L' : List Int) (x y : Cl) : (d.mk' p top bot n L x).mk' p top' bot' n' L' y = d.mk' p top' bot' n' L' y := by
  unfold Dq.mk'
  congr 1
  funext k
  by_cases e : k = p <;> simp [e]

theorem Al.begin {d : Dq} {R : List Int} (h : Al d R) (p : Nat) (kind item : Int) (ho : ownC (p : Int) kind = true) : beginD d (p : Int) kind item = (0, d.mk' p d.top d.bot d.n d.L ⟨0, 0, 0, false, kind, item, 0⟩) := by
  unfold beginD
  have hb : busyD d (p : Int) = false := by
    unfold busyD
    rw [Int.toNat_natCast, h.z]
    simp [Cl.zero]
  rw [if_neg (by rw [ho]; simp), if_neg (by rw [hb]; simp), Int.toNat_natCast]
  rfl

theorem thru_push {d : Dq} {R : List Int} (h : Al d R) (hb : d.bot ≤ 20000) (i : Int) : (thruD d 0 1 i).1 = 1 ∧ Al (thruD d 0 1 i).2.2 (R ++ [i]) := by
  have hb0 := h.begin 0 1 i (by decide)
  have hj0 := (h.j.begin 0 1 i).2 (by rw [show beginD d 0 1 i = _ from hb0])
  rw [show beginD d 0 1 i = _ from hb0, if_pos rfl] at hj0
  dsimp only at hj0
  unfold thruD
  rw [show beginD d 0 1 i = _ from hb0, if_pos rfl]
  generalize hd0 : d.mk' 0 d.top d.bot d.n d.L ⟨0, 0, 0, false, 1, i, 0⟩ = d0 at *
  have hc0 : d0.c 0 = ⟨0, 0, 0, false, 1, i, 0⟩ := by rw [← hd0, mk_c]
  have hz0 : ∀ top bot n L q, (d0.mk' 0 top bot n L Cl.zero).c q = Cl.zero := by
    intro top bot n L q
    rw [← hd0, mk_mk]
    exact mk_z h.z ..
  have hbt0 : d0.bot = d.bot := by rw [← hd0]; rfl
  have hk0 : (d0.c 0).k ≠ 0 := by rw [hc0]; simp
  have hj1 := (hj0.go hk0 (by omega) (sp0 hc0) (by omega)).1
  rw [show (0 : Int) = ((0 : Nat) : Int) from rfl, steps_go (by omega) hk0 (sp0 hc0)]
  generalize hd1 : d0.mk' 0 d0.top d0.bot d0.n d0.L ⟨d0.bot, 0, 0, false, 1, i, 1⟩ = d1 at *
  have hc1 : d1.c 0 = ⟨d0.bot, 0, 0, false, 1, i, 1⟩ := by rw [← hd1, mk_c]
  have hbt1 : d1.bot = d0.bot := by rw [← hd1]; rfl
  have hk1 : (d1.c 0).k ≠ 0 := by rw [hc1]; simp
  have hz1 : ∀ top bot n L q, (d1.mk' 0 top bot n L Cl.zero).c q = Cl.zero := by
    intro top bot n L q
    rw [← hd1, mk_mk]
    exact hz0 ..
  have key : ∃ d2, stepB d1 0 = (0, 0, d2) ∧ d2.c 0 = ⟨d0.bot, d1.top, 0, false, 1, i, 2⟩ ∧ d2.bot = d1.bot ∧ ∀ top bot n L q, (d2.mk' 0 top bot n L Cl.zero).c q = Cl.zero := by
    by_cases hg : (d1.n : Int) - 1 ≤ d0.bot - d1.top
    · exact ⟨_, sp1g hc1 hg, mk_c .., rfl, fun top bot n L q => by rw [mk_mk]; exact hz1 ..⟩
    · exact ⟨_, sp1 hc1 hg, mk_c .., rfl, fun top bot n L q => by rw [mk_mk]; exact hz1 ..⟩
  obtain ⟨d2, hs1, hc2, hbt2, hz2⟩ := key
  have hj2 := (hj1.go hk1 (by omega) hs1 (by omega)).1
  rw [steps_go (by omega) hk1 hs1]
  have hk2 : (d2.c 0).k ≠ 0 := by rw [hc2]; simp
  have hj3 := (hj2.go hk2 (by omega) (sp2 hc2) (by omega)).1
  rw [steps_go (by omega) hk2 (sp2 hc2)]
  generalize hd3 : d2.mk' 0 d2.top d2.bot d2.n (d2.L.set (plc d2.n d0.bot) i) ⟨d0.bot, d1.top, 0, false, 1, i, 3⟩ = d3 at *
  have hc3 : d3.c 0 = ⟨d0.bot, d1.top, 0, false, 1, i, 3⟩ := by rw [← hd3, mk_c]
  have hbt3 : d3.bot = d2.bot := by rw [← hd3]; rfl
  have hk3 : (d3.c 0).k ≠ 0 := by rw [hc3]; simp
  have hj4 := (hj3.go hk3 (by omega) (sp3 hc3) (by omega)).1
  rw [steps_end (by omega) hk3 (sp3 hc3) (by omega)]
  refine ⟨rfl, ?_, hj4⟩
  intro q
  show (d3.mk' 0 d3.top (d0.bot + 1) d3.n d3.L Cl.zero).c q = _
  rw [← hd3, mk_mk]
  exact hz2 ..

theorem thru_pop {d : Dq} {R : List Int} (h : Al d R) (hb : d.bot ≤ 20000) : ((thruD d 0 2 0).1 = 3 ∧ R = [] ∧ Al (thruD d 0 2 0).2.2 []) ∨ ∃ R' x, R = R' ++ [x] ∧ (thruD d 0 2 0).1 = 2 ∧ (thruD d 0 2 0).2.1 = x ∧ Al (thruD d 0 2 0).2.2 R' := by
  have hb0 := h.begin 0 2 0 (by decide)
  have hj0 := (h.j.begin 0 2 0).2 (by rw [show beginD d 0 2 0 = _ from hb0])
  rw [show beginD d 0 2 0 = _ from hb0, if_neg (by omega)] at hj0
  dsimp only at hj0
  unfold thruD
  rw [show beginD d 0 2 0 = _ from hb0, if_pos rfl]
  generalize hd0 : d.mk' 0 d.top d.bot d.n d.L ⟨0, 0, 0, false, 2, 0, 0⟩ = d0 at *
  have hc0 : d0.c 0 = ⟨0, 0, 0, false, 2, 0, 0⟩ := by rw [← hd0, mk_c]
  have hz0 : ∀ top bot n L q, (d0.mk' 0 top bot n L Cl.zero).c q = Cl.zero := by
    intro top bot n L q
    rw [← hd0, mk_mk]
    exact mk_z h.z ..
  have hbt0 : d0.bot = d.bot := by rw [← hd0]; rfl
  have hk0 : (d0.c 0).k ≠ 0 := by rw [hc0]; simp
  have hj1 := (hj0.go hk0 (by omega) (so0 hc0) (by omega)).1
  rw [show (0 : Int) = ((0 : Nat) : Int) from rfl, steps_go (by omega) hk0 (so0 hc0)]
  generalize hd1 : d0.mk' 0 d0.top (d0.bot - 1) d0.n d0.L ⟨d0.bot - 1, 0, 0, false, 2, 0, 1⟩ = d1 at *
  have hc1 : d1.c 0 = ⟨d0.bot - 1, 0, 0, false, 2, 0, 1⟩ := by rw [← hd1, mk_c]
  have hbt1 : d1.bot = d0.bot - 1 := by rw [← hd1]; rfl
  have hk1 : (d1.c 0).k ≠ 0 := by rw [hc1]; simp
  have hz1 : ∀ top bot n L q, (d1.mk' 0 top bot n L Cl.zero).c q = Cl.zero := by
    intro top bot n L q
    rw [← hd1, mk_mk]
    exact hz0 ..
  by_cases hlt : d0.bot - 1 < d1.top
  · have hj2 := hj1.go hk1 (by omega) (so1e hc1 hlt) (by omega)
    rw [steps_end (by omega) hk1 (so1e hc1 hlt) (by omega)]
    have hR := hj2.2 rfl (by rw [hc1]) rfl
    refine .inl ⟨rfl, hR, ?_, ?_⟩
    · exact fun q => hz1 _ _ _ _ q
    · have := hj2.1
      rw [hR] at this
      exact this
  · have hj2 := (hj1.go hk1 (by omega) (so1 hc1 hlt) (by omega)).1
    rw [steps_go (by omega) hk1 (so1 hc1 hlt)]
    generalize hd2 : d1.mk' 0 d1.top d1.bot d1.n d1.L ⟨d0.bot - 1, d1.top, 0, false, 2, 0, 2⟩ = d2 at *
    have hc2 : d2.c 0 = ⟨d0.bot - 1, d1.top, 0, false, 2, 0, 2⟩ := by rw [← hd2, mk_c]
    have hbt2 : d2.bot = d1.bot := by rw [← hd2]; rfl
    have htp2 : d2.top = d1.top := by rw [← hd2]; rfl
    have hk2 : (d2.c 0).k ≠ 0 := by rw [hc2]; simp
    have hz2 : ∀ top bot n L q, (d2.mk' 0 top bot n L Cl.zero).c q = Cl.zero := by
      intro top bot n L q
      rw [← hd2, mk_mk]
      exact hz1 ..
    by_cases ht : d1.top < d0.bot - 1
    · obtain ⟨H', hj3, hH, _⟩ := hj2.got hk2 (by omega) (so2i hc2 ht)
      rw [steps_end (by omega) hk2 (so2i hc2 ht) (by omega)]
      exact .inr ⟨H', _, hH rfl, rfl, rfl, fun q => hz2 _ _ _ _ q, hj3⟩
    · have hj3 := (hj2.go hk2 (by omega) (so2 hc2 ht) (by omega)).1
      rw [steps_go (by omega) hk2 (so2 hc2 ht)]
      generalize hd3 : d2.mk' 0 d2.top d2.bot d2.n d2.L ⟨d0.bot - 1, d1.top, atD d2 (d0.bot - 1), false, 2, 0, 3⟩ = d3 at *
      have hc3 : d3.c 0 = ⟨d0.bot - 1, d1.top, atD d2 (d0.bot - 1), false, 2, 0, 3⟩ := by rw [← hd3, mk_c]
      have hbt3 : d3.bot = d2.bot := by rw [← hd3]; rfl
      have htp3 : d3.top = d1.top := by rw [← htp2, ← hd3]; rfl
      have hk3 : (d3.c 0).k ≠ 0 := by rw [hc3]; simp
      have hz3 : ∀ top bot n L q, (d3.mk' 0 top bot n L Cl.zero).c q = Cl.zero := by
        intro top bot n L q
        rw [← hd3, mk_mk]
        exact hz2 ..
      have hj4 := (hj3.go hk3 (by omega) (so3w hc3 htp3) (by omega)).1
      rw [steps_go (by omega) hk3 (so3w hc3 htp3)]
      generalize hd4 : d3.mk' 0 (d1.top + 1) d3.bot d3.n d3.L ⟨d0.bot - 1, d1.top, atD d2 (d0.bot - 1), true, 2, 0, 4⟩ = d4 at *
      have hc4 : d4.c 0 = ⟨d0.bot - 1, d1.top, atD d2 (d0.bot - 1), true, 2, 0, 4⟩ := by rw [← hd4, mk_c]
      have hbt4 : d4.bot = d3.bot := by rw [← hd4]; rfl
      have hk4 : (d4.c 0).k ≠ 0 := by rw [hc4]; simp
      obtain ⟨H', hj5, hH, _⟩ := hj4.got hk4 (by omega) (so4w hc4 rfl)
      rw [steps_end (by omega) hk4 (so4w hc4 rfl) (by omega)]
      refine .inr ⟨H', _, hH rfl, rfl, rfl, ?_, hj5⟩
      intro q
      show (d4.mk' 0 d4.top (d1.top + 1) d4.n d4.L Cl.zero).c q = _
      rw [← hd4, mk_mk]
      exact hz3 ..

theorem thru_steal {d : Dq} {R : List Int} (h : Al d R) (hb : d.bot ≤ 20000) (p : Nat) (hp1 : 1 ≤ p) (hp : p < 16) : ((thruD d (p : Int) 3 0).1 = 3 ∧ R = [] ∧ Al (thruD d (p : Int) 3 0).2.2 []) ∨ ∃ R' x, R = x :: R' ∧ (thruD d (p : Int) 3 0).1 = 2 ∧ (thruD d (p : Int) 3 0).2.1 = x ∧ Al (thruD d (p : Int) 3 0).2.2 R' := by
  have hb0 := h.begin p 3 0 (by unfold ownC; rw [if_neg (by omega)]; simp; omega)
  have hj0 := (h.j.begin p 3 0).2 (by rw [hb0])
  have hit := h.items
  rw [hb0, if_neg (by omega)] at hj0
  dsimp only at hj0
  unfold thruD
  rw [hb0, if_pos rfl]
  generalize hd0 : d.mk' p d.top d.bot d.n d.L ⟨0, 0, 0, false, 3, 0, 0⟩ = d0 at *
  have hc0 : d0.c p = ⟨0, 0, 0, false, 3, 0, 0⟩ := by rw [← hd0, mk_c]
  have hz0 : ∀ top bot n L q, (d0.mk' p top bot n L Cl.zero).c q = Cl.zero := by
    intro top bot n L q
    rw [← hd0, mk_mk]
    exact mk_z h.z ..
  have hbt0 : d0.bot = d.bot := by rw [← hd0]; rfl
  have htp0 : d0.top = d.top := by rw [← hd0]; rfl
  have hk0 : (d0.c p).k ≠ 0 := by rw [hc0]; simp
  have hj1 := (hj0.go hk0 (by omega) (ss0 hc0) (by omega)).1
  rw [steps_go hp hk0 (ss0 hc0)]
  generalize hd1 : d0.mk' p d0.top d0.bot d0.n d0.L ⟨0, d0.top, 0, false, 3, 0, 1⟩ = d1 at *
  have hc1 : d1.c p = ⟨0, d0.top, 0, false, 3, 0, 1⟩ := by rw [← hd1, mk_c]
  have hbt1 : d1.bot = d0.bot := by rw [← hd1]; rfl
  have htp1 : d1.top = d0.top := by rw [← hd1]; rfl
  have hk1 : (d1.c p).k ≠ 0 := by rw [hc1]; simp
  have hz1 : ∀ top bot n L q, (d1.mk' p top bot n L Cl.zero).c q = Cl.zero := by
    intro top bot n L q
    rw [← hd1, mk_mk]
    exact hz0 ..
  by_cases hlt : d1.bot - d0.top < 1
  · have hj2 := (hj1.go hk1 (by omega) (ss1e hc1 hlt) (by omega)).1
    rw [steps_end hp hk1 (ss1e hc1 hlt) (by omega)]
    have hR : R = [] := by
      rw [← hit, items_sg, show (d.bot - d.top).toNat = 0 by omega]
      rfl
    refine .inl ⟨rfl, hR, ?_, ?_⟩
    · exact fun q => hz1 _ _ _ _ q
    · rw [hR] at hj2
      exact hj2
  · have hj2 := (hj1.go hk1 (by omega) (ss1 hc1 hlt) (by omega)).1
    rw [steps_go hp hk1 (ss1 hc1 hlt)]
    generalize hd2 : d1.mk' p d1.top d1.bot d1.n d1.L ⟨d1.bot, d0.top, 0, false, 3, 0, 2⟩ = d2 at *
    have hc2 : d2.c p = ⟨d1.bot, d0.top, 0, false, 3, 0, 2⟩ := by rw [← hd2, mk_c]
    have hbt2 : d2.bot = d1.bot := by rw [← hd2]; rfl
    have htp2 : d2.top = d1.top := by rw [← hd2]; rfl
    have hk2 : (d2.c p).k ≠ 0 := by rw [hc2]; simp
    have hz2 : ∀ top bot n L q, (d2.mk' p top bot n L Cl.zero).c q = Cl.zero := by
      intro top bot n L q
      rw [← hd2, mk_mk]
      exact hz1 ..
    have hj3 := (hj2.go hk2 (by omega) (ss2 hc2) (by omega)).1
    rw [steps_go hp hk2 (ss2 hc2)]
    generalize hd3 : d2.mk' p d2.top d2.bot d2.n d2.L ⟨d1.bot, d0.top, atD d2 d0.top, false, 3, 0, 3⟩ = d3 at *
    have hc3 : d3.c p = ⟨d1.bot, d0.top, atD d2 d0.top, false, 3, 0, 3⟩ := by rw [← hd3, mk_c]
    have hbt3 : d3.bot = d2.bot := by rw [← hd3]; rfl
    have htp3 : d3.top = d0.top := by rw [← htp1, ← htp2, ← hd3]; rfl
    have hk3 : (d3.c p).k ≠ 0 := by rw [hc3]; simp
    obtain ⟨H', hj5, _, hH⟩ := hj3.got hk3 (by omega) (ss3 hc3 htp3)
    rw [steps_end hp hk3 (ss3 hc3 htp3) (by omega)]
    refine .inr ⟨H', _, hH (by omega), rfl, rfl, ?_, hj5⟩
    intro q
    show (d3.mk' p (d0.top + 1) d3.bot d3.n d3.L Cl.zero).c q = _
    rw [← hd3, mk_mk]
    exact hz2 ..
end Go.Proofs.Ytaooglcjcnkgnaa
