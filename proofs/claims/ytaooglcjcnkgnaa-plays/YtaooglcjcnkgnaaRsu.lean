/- The document's deque: New, Begin, Step, Items. -/
import Derived.Test.YtaooglcjcnkgnaaRst
import Derived.Test.YtaooglcjcnkgnaaIts
namespace Go.Proofs.Ytaooglcjcnkgnaa
open Go.RowKit Go.ChangeShapes Go.WideShapes Go.ChangeAt Go.Deep

def NewRPost (w : World) (e : Ending) (w' : World) : Prop := ∃ cb rb g, e = .returned (.pointer (some ⟨cb, 0, none⟩)) ∧ RQ w' cb rb g Dq.zero ∧ w.heap.size ≤ cb ∧ w.heap.size ≤ rb ∧ w.heap.size ≤ g ∧ Below w.heap.size w w'

set_option maxRecDepth 100000 in
theorem zero62 (w : World) : (zeroValue 62).run Try.prog w = .ok (.agg #[.int .i64 0, .int .i64 0, .pointer none, .int .i64 0, .int .i64 0, .int .i64 0, .int .i64 0, .int .i64 0, .int .i64 0, .int .i64 0, .int .i64 0, .int .i64 0, .int .i64 0, .int .i64 0, .int .i64 0, .int .i64 0, .int .i64 0, .int .i64 0, .int .i64 0, .int .i64 0, .int .i64 0, .int .i64 0, .int .i64 0, .int .i64 0, .int .i64 0, .int .i64 0, .int .i64 0, .int .i64 0, .int .i64 0, .int .i64 0, .int .i64 0, .int .i64 0, .int .i64 0, .int .i64 0, .int .i64 0, .int .i64 0, .int .i64 0, .int .i64 0, .int .i64 0, .int .i64 0, .int .i64 0, .int .i64 0, .int .i64 0, .int .i64 0, .int .i64 0, .int .i64 0, .int .i64 0, .int .i64 0, .int .i64 0, .int .i64 0, .int .i64 0, .int .i64 0, .int .i64 0, .int .i64 0, .int .i64 0, .int .i64 0, .int .i64 0, .int .i64 0, .int .i64 0, .int .i64 0, .int .i64 0, .int .i64 0, .int .i64 0, .int .i64 0, .int .i64 0, .int .i64 0, .int .i64 0, .int .i64 0, .int .i64 0, .int .i64 0, .int .i64 0, .int .i64 0, .int .i64 0, .int .i64 0, .int .i64 0, .int .i64 0, .int .i64 0, .int .i64 0, .int .i64 0, .int .i64 0, .int .i64 0, .int .i64 0, .int .i64 0, .int .i64 0, .int .i64 0, .int .i64 0, .int .i64 0, .int .i64 0, .int .i64 0, .int .i64 0, .int .i64 0, .int .i64 0, .int .i64 0, .int .i64 0, .int .i64 0, .int .i64 0, .int .i64 0, .int .i64 0, .int .i64 0, .int .i64 0, .int .i64 0, .int .i64 0, .int .i64 0, .int .i64 0, .int .i64 0, .int .i64 0, .int .i64 0, .int .i64 0, .int .i64 0, .int .i64 0, .int .i64 0, .int .i64 0, .int .i64 0, .int .i64 0, .int .i64 0]) w := by kernel_rfl

set_option maxRecDepth 100000 in
theorem cells62 (rb : Nat) : (#[.int .i64 0, .int .i64 0, .pointer (some ⟨rb, 0, none⟩), .int .i64 0, .int .i64 0, .int .i64 0, .int .i64 0, .int .i64 0, .int .i64 0, .int .i64 0, .int .i64 0, .int .i64 0, .int .i64 0, .int .i64 0, .int .i64 0, .int .i64 0, .int .i64 0, .int .i64 0, .int .i64 0, .int .i64 0, .int .i64 0, .int .i64 0, .int .i64 0, .int .i64 0, .int .i64 0, .int .i64 0, .int .i64 0, .int .i64 0, .int .i64 0, .int .i64 0, .int .i64 0, .int .i64 0, .int .i64 0, .int .i64 0, .int .i64 0, .int .i64 0, .int .i64 0, .int .i64 0, .int .i64 0, .int .i64 0, .int .i64 0, .int .i64 0, .int .i64 0, .int .i64 0, .int .i64 0, .int .i64 0, .int .i64 0, .int .i64 0, .int .i64 0, .int .i64 0, .int .i64 0, .int .i64 0, .int .i64 0, .int .i64 0, .int .i64 0, .int .i64 0, .int .i64 0, .int .i64 0, .int .i64 0, .int .i64 0, .int .i64 0, .int .i64 0, .int .i64 0, .int .i64 0, .int .i64 0, .int .i64 0, .int .i64 0, .int .i64 0, .int .i64 0, .int .i64 0, .int .i64 0, .int .i64 0, .int .i64 0, .int .i64 0, .int .i64 0, .int .i64 0, .int .i64 0, .int .i64 0, .int .i64 0, .int .i64 0, .int .i64 0, .int .i64 0, .int .i64 0, .int .i64 0, .int .i64 0, .int .i64 0, .int .i64 0, .int .i64 0, .int .i64 0, .int .i64 0, .int .i64 0, .int .i64 0, .int .i64 0, .int .i64 0, .int .i64 0, .int .i64 0, .int .i64 0, .int .i64 0, .int .i64 0, .int .i64 0, .int .i64 0, .int .i64 0, .int .i64 0, .int .i64 0, .int .i64 0, .int .i64 0, .int .i64 0, .int .i64 0, .int .i64 0, .int .i64 0, .int .i64 0, .int .i64 0, .int .i64 0, .int .i64 0, .int .i64 0] : Array Value) = ((List.range 115).map (rcell Dq.zero rb)).toArray := by kernel_rfl

set_option maxRecDepth 100000 in
theorem newR_any (w : World) : Calls Try.prog 12 #[] w (NewRPost w) := by
  have C25 := hide (newRing_any 4 none 0 0 [] w rfl (by omega) (.inl rfl))
  have hz := zero62
  go_enter Try.func12, Try.ntmps12
  go_wp2_with (go_at_call 25; go_must ((with_reducible refine C25.out.mono ?_); rintro e w1 ⟨rb, g, n, rfl, hU, hR, h1, h2, h3⟩; obtain rfl := up4 hU; have HR := hide hR; have H1 := hide (And.intro h1 (And.intro h2 h3)); clear hR h1 h2 h3 hU))
  go_ret
  have HB := H1.out.2.2
  have HN := below_new w1 (.cells #[.int .i64 0, .int .i64 0, .pointer (some ⟨rb, 0, none⟩), .int .i64 0, .int .i64 0, .int .i64 0, .int .i64 0, .int .i64 0, .int .i64 0, .int .i64 0, .int .i64 0, .int .i64 0, .int .i64 0, .int .i64 0, .int .i64 0, .int .i64 0, .int .i64 0, .int .i64 0, .int .i64 0, .int .i64 0, .int .i64 0, .int .i64 0, .int .i64 0, .int .i64 0, .int .i64 0, .int .i64 0, .int .i64 0, .int .i64 0, .int .i64 0, .int .i64 0, .int .i64 0, .int .i64 0, .int .i64 0, .int .i64 0, .int .i64 0, .int .i64 0, .int .i64 0, .int .i64 0, .int .i64 0, .int .i64 0, .int .i64 0, .int .i64 0, .int .i64 0, .int .i64 0, .int .i64 0, .int .i64 0, .int .i64 0, .int .i64 0, .int .i64 0, .int .i64 0, .int .i64 0, .int .i64 0, .int .i64 0, .int .i64 0, .int .i64 0, .int .i64 0, .int .i64 0, .int .i64 0, .int .i64 0, .int .i64 0, .int .i64 0, .int .i64 0, .int .i64 0, .int .i64 0, .int .i64 0, .int .i64 0, .int .i64 0, .int .i64 0, .int .i64 0, .int .i64 0, .int .i64 0, .int .i64 0, .int .i64 0, .int .i64 0, .int .i64 0, .int .i64 0, .int .i64 0, .int .i64 0, .int .i64 0, .int .i64 0, .int .i64 0, .int .i64 0, .int .i64 0, .int .i64 0, .int .i64 0, .int .i64 0, .int .i64 0, .int .i64 0, .int .i64 0, .int .i64 0, .int .i64 0, .int .i64 0, .int .i64 0, .int .i64 0, .int .i64 0, .int .i64 0, .int .i64 0, .int .i64 0, .int .i64 0, .int .i64 0, .int .i64 0, .int .i64 0, .int .i64 0, .int .i64 0, .int .i64 0, .int .i64 0, .int .i64 0, .int .i64 0, .int .i64 0, .int .i64 0, .int .i64 0, .int .i64 0, .int .i64 0, .int .i64 0, .int .i64 0] 62)
  have HR2 := HR.out.below HN
  have HL := HR.out.lt
  refine ⟨w1.heap.size, rb, g, rfl, ⟨?_, ⟨HR2.pow, rfl, HR2.box, HR2.own, HR2.ne⟩, by omega, by omega⟩, HB.size, H1.out.1, H1.out.2.1, HB.trans (HN.mono HB.size)⟩
  rw [cells62 rb]
  intro i hi
  refine ⟨?_, World.frozen?_alloc_at _ _ _ _ rfl⟩
  rw [World.cell?_alloc_at _ _ _ _ rfl]
  simp [hi]

def RBPost (cb rb g : Nat) (d : Dq) (who call item : Int) (w : World) (e : Ending) (w' : World) : Prop :=
  e = .returned (.int .i64 (beginD d who call item).1) ∧ RQ w' cb rb g (beginD d who call item).2 ∧ Wr cb g w w'

set_option maxRecDepth 100000 in
theorem rbegin_no (w : World) (cb rb g : Nat) (d : Dq) (who call item : Int) (h : RQ w cb rb g d) (ho : ownC who call = false)
    (hcs : who < 0 ∨ 15 < who ∨ (0 ≤ who ∧ who ≤ 15 ∧ call < 1) ∨ (0 ≤ who ∧ who ≤ 15 ∧ 3 < call) ∨ (who = 0 ∧ call = 3) ∨ (0 < who ∧ who ≤ 15 ∧ 1 ≤ call ∧ call < 3)) :
    Calls Try.prog 16 #[.pointer (some ⟨cb, 0, none⟩), .int .i64 who, .int .i64 call, .int .i64 item] w (RBPost cb rb g d who call item w) := by
  have HE := hide (show beginD d who call item = (1, d) by unfold beginD; rw [if_pos ho])
  have HD := hide h
  unfold RBPost
  generalize beginD d who call item = R at *
  clear h ho
  rcases hcs with h1 | h1 | ⟨h1, h2, h3⟩ | ⟨h1, h2, h3⟩ | ⟨rfl, rfl⟩ | ⟨h1, h2, h3, h4⟩
  all_goals
    try have h5 : ¬ who < 0 := by omega
    try have h6 : ¬ 15 < who := by omega
    try have h7 : ¬ call < 1 := by omega
    try have h8 : ¬ 3 < call := by omega
    try have h9 : (call == 3) = false := by simp; omega
    try have h10 : 0 < who := by omega
    go_enter Try.func16, Try.ntmps16
    go_wp2
    go_ret
    exact ⟨by rw [HE.out]; rfl, by rw [HE.out]; exact HD.out, Wr.refl _ _ _⟩

set_option maxRecDepth 100000 in
theorem rbegin_own (w : World) (cb rb g : Nat) (d : Dq) (p : Nat) (call item : Int) (hp : p < 16) (h : RQ w cb rb g d) (ho : ownC (p : Int) call = true)
    (hcs : (p = 0 ∧ call = 1) ∨ (p = 0 ∧ call = 2) ∨ (0 < p ∧ call = 3)) :
    Calls Try.prog 16 #[.pointer (some ⟨cb, 0, none⟩), .int .i64 (p : Int), .int .i64 call, .int .i64 item] w (RBPost cb rb g d p call item w) := by
  obtain ⟨hk, fk⟩ := h.call p 0 hp (by omega)
  simp only [rcl, Nat.add_zero] at hk fk
  by_cases hb : busyD d (p : Int) = true
  · have HE := hide (show beginD d p call item = (31, d) by unfold beginD; rw [if_neg (by rw [ho]; simp), if_pos hb])
    have hk0 := (stepD_busy hb).2.1
    rw [Int.toNat_natCast] at hk0
    have hk1 : ((d.c p).k != 0) = true := by simpa using hk0
    have HD := hide h
    unfold RBPost
    generalize beginD d p call item = R at *
    generalize (d.c p).k = x at *
    clear h ho hb hk0
    rcases hcs with ⟨rfl, rfl⟩ | ⟨rfl, rfl⟩ | ⟨h1, rfl⟩
    all_goals
      try have h2 : 0 < (p : Int) := by omega
      try have h3 : ¬ 15 < (p : Int) := by omega
      try have h4 : (p : Int) < 16 := by omega
      go_enter Try.func16, Try.ntmps16
      go_wp2
      go_ret
      exact ⟨by rw [HE.out]; rfl, by rw [HE.out]; exact HD.out, Wr.refl _ _ _⟩
  · have HE := hide (show beginD d p call item = (0, d.put p { Cl.zero with k := call, i := item }) by
      unfold beginD; rw [if_neg (by rw [ho]; simp), if_neg hb, Int.toNat_natCast])
    have hk0 : (d.c p).k = 0 := by
      unfold busyD at hb
      rw [decide_eq_true (by omega), Int.toNat_natCast] at hb
      simpa using hb
    rw [hk0] at hk
    obtain ⟨c1, f1⟩ := h.call p 1 hp (by omega)
    obtain ⟨c2, f2⟩ := h.call p 2 hp (by omega)
    obtain ⟨c3, f3⟩ := h.call p 3 hp (by omega)
    obtain ⟨c4, f4⟩ := h.call p 4 hp (by omega)
    obtain ⟨c5, f5⟩ := h.call p 5 hp (by omega)
    obtain ⟨c6, f6⟩ := h.call p 6 hp (by omega)
    simp only [rcl] at c1 c2 c3 c4 c5 c6 f1 f2 f3 f4 f5 f6
    have HD := hide (h.setAll p hp { Cl.zero with k := call, i := item })
    unfold RBPost
    generalize beginD d p call item = R at *
    clear h ho hb hk0
    rcases hcs with ⟨rfl, rfl⟩ | ⟨rfl, rfl⟩ | ⟨h1, rfl⟩
    all_goals
      try have h2 : 0 < (p : Int) := by omega
      try have h3 : ¬ 15 < (p : Int) := by omega
      try have h4 : (p : Int) < 16 := by omega
      go_enter Try.func16, Try.ntmps16
      go_wp2
      go_ret
      exact ⟨by rw [HE.out]; rfl, by rw [HE.out]; exact HD.out, Wr.setAll _ _ _ _ _ _ _ _ _ _ _⟩

theorem rbegin_any (w : World) (cb rb g : Nat) (d : Dq) (who call item : Int) (h : RQ w cb rb g d) :
    Calls Try.prog 16 #[.pointer (some ⟨cb, 0, none⟩), .int .i64 who, .int .i64 call, .int .i64 item] w (RBPost cb rb g d who call item w) := by
  by_cases ho : ownC who call = true
  · have hw := ownC_who ho
    obtain ⟨p, rfl⟩ : ∃ p : Nat, who = p := ⟨who.toNat, by omega⟩
    refine rbegin_own w cb rb g d p call item (by omega) h ho ?_
    unfold ownC at ho
    split at ho <;> simp at ho <;> omega
  · have ho' : ownC who call = false := by simpa using ho
    refine rbegin_no w cb rb g d who call item h ho' ?_
    unfold ownC at ho'
    split at ho' <;> simp at ho' <;> omega
end Go.Proofs.Ytaooglcjcnkgnaa
