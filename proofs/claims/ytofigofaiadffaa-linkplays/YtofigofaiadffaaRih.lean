/- The document's link: In: the order, plain, and the last loops' state. -/
import Derived.Test.YtofigofaiadffaaRig
namespace Go.Proofs.Ytofigofaiadffaa
open Go.RowKit Go.ChangeShapes Go.WideShapes Go.ChangeAt Go.Deep

def RIV (L0 : List (Nat × List Nat)) (a0 : Nat) (outs : List (List Nat)) (l : List (Nat × List Nat)) (c : Nat) : Prop :=
  rord L0.length L0 a0 = (outs ++ (rord l.length l c).1, (rord l.length l c).2)
theorem RIV.begin (L0 : List (Nat × List Nat)) (a0 : Nat) : RIV L0 a0 [] L0 a0 := by unfold RIV; simp
theorem spotK_no {m : Nat} {l : List (Nat × List Nat)} (h : ∀ j (hj : j < l.length), l[j].1 ≠ m) : spotK m l = none := by
  induction l with
  | nil => rfl
  | cons y ys ih =>
    have h0 : y.1 ≠ m := h 0 (by simp)
    unfold spotK
    rw [if_neg h0, ih fun j hj => h (j + 1) (by simpa using hj)]
    rfl
theorem spotK_at {m i : Nat} {l : List (Nat × List Nat)} (hi : i < l.length) (h : l[i].1 = m) (hb : ∀ j (hj : j < l.length), j < i → l[j].1 ≠ m) : spotK m l = some i ∧ look m l = some l[i].2 := by
  induction l generalizing i with
  | nil => simp at hi
  | cons y ys ih =>
    unfold spotK look
    cases i with
    | zero =>
      have h0 : y.1 = m := h
      rw [if_pos h0, if_pos h0]
      exact ⟨rfl, rfl⟩
    | succ i =>
      have h0 : y.1 ≠ m := hb 0 (by simp) (by omega)
      rw [if_neg h0, if_neg h0]
      obtain ⟨h1, h2⟩ := ih (i := i) (by simpa using hi) (by simpa using h) (fun j hj hji => hb (j + 1) (by simpa using hj) (by omega))
      rw [h1, h2]
      exact ⟨rfl, rfl⟩
theorem RIV.step {L0 : List (Nat × List Nat)} {a0 : Nat} {outs : List (List Nat)} {l : List (Nat × List Nat)} {c i : Nat} (h : RIV L0 a0 outs l c) (hi : i < l.length) (he : l[i].1 = c + 1) (hb : ∀ j (hj : j < l.length), j < i → l[j].1 ≠ c + 1) : RIV L0 a0 (outs ++ [l[i].2]) (l.eraseIdx i) (c + 1) := by
  unfold RIV at h ⊢
  obtain ⟨h1, h2⟩ := spotK_at hi he hb
  obtain ⟨f, hf⟩ : ∃ f, l.length = f + 1 := ⟨l.length - 1, by omega⟩
  have hl : (l.eraseIdx i).length = f := by rw [List.length_eraseIdx_of_lt hi]; omega
  rw [h, hl, hf]
  have e : rord (f + 1) l c = ((look (c + 1) l).getD [] :: (rord f (l.eraseIdx i) (c + 1)).1, (rord f (l.eraseIdx i) (c + 1)).2) := by
    show (match spotK (c + 1) l with
      | none => ([], l, c)
      | some i => ((look (c + 1) l).getD [] :: (rord f (l.eraseIdx i) (c + 1)).1, (rord f (l.eraseIdx i) (c + 1)).2)) = _
    rw [h1]
  rw [e, h2]
  simp
theorem RIV.end {L0 : List (Nat × List Nat)} {a0 : Nat} {outs : List (List Nat)} {l : List (Nat × List Nat)} {c : Nat} (h : RIV L0 a0 outs l c) (hn : spotK (c + 1) l = none) : rord L0.length L0 a0 = (outs, l, c) := by
  unfold RIV at h
  have e : rord l.length l c = ([], l, c) := by
    cases hl : l.length with
    | zero => rfl
    | succ f =>
      show (match spotK (c + 1) l with
        | none => ([], l, c)
        | some i => ((look (c + 1) l).getD [] :: (rord f (l.eraseIdx i) (c + 1)).1, (rord f (l.eraseIdx i) (c + 1)).2)) = _
      rw [hn]
  rw [h, e]
  simp

/-- Where the last loops stand. -/
def R3 (E : Nat → Prop) (V wr : World) (g : Nat) (k : Kc) (r : Rl) (f : Fr) (fb : Nat) (fc : List Value) (a : Option Addr) (n cc : Nat) (b : Bool) (l : List (Nat × List Nat)) (c : Nat) (lt : List Txt) : Prop :=
  RI2 E V wr g k { rcloseL r f with ow := true, kp := l, all := c } fb fc ∧ RowT (fun j => j ≠ g) V.heap.size wr a n cc lt ∧ RIV (r.kp ++ [(f.sq.toNat, f.x)]) r.all (lt.map Txt.bs) l c ∧ n + l.length = r.kp.length + 1 ∧ c = r.all + n ∧ (b = false → spotK (c + 1) l = none)

def slLen : Value → Nat
  | .slice _ n _ => n
  | _ => 0
def blN : Value → Nat
  | .bool true => 1
  | _ => 0
theorem r3_fin {E : Nat → Prop} {w V wr : World} {g : Nat} {k : Kc} {r : Rl} {f : Fr} {fb : Nat} {fc : List Value} {a : Option Addr} {n cc : Nat} {l : List (Nat × List Nat)} {c : Nat} {lt : List Txt} (h : R3 E V wr g k r f fb fc a n cc false l c lt) (hV : Below w.heap.size w V) (hF : rforB k r f = true) (h0 : f.sq ≠ 0) (hn : rnilB r f = false) : RInQ E w g k r f (.returned (.tuple #[.slice a n cc, .bool true])) wr := by
  obtain ⟨h1, h2, h3, h4, h5, h6⟩ := h
  have hlt := ri2_lt h1
  have e := h3.end (h6 rfl)
  rw [List.length_append, List.length_cons, List.length_nil] at e
  refine ⟨a, n, cc, lt, by rw [hF], h2.mono (fun _ h => h) hV.size, ?_, ?_, Kp.trans' (.of_below hV) h1.2.1 (fun j hj => .inl hj)⟩
  · unfold rinF
    rw [if_neg (by rw [hF, hn]; simp [h0]), e]
  · unfold rinL
    rw [if_neg (by rw [hF]; decide), if_neg h0, if_neg (by rw [hn]; decide), e]
    exact h1.1.mono (fun j hj => hj.elim .inl fun h3 => .inr ⟨Nat.le_trans hV.size h3.1, h3.2⟩) (fun j hj => hj.elim (fun h3 => hlt j (.inl h3)) fun h3 => h3.2)
theorem R3.drewN {E : Nat → Prop} {V wr : World} {g : Nat} {k : Kc} {r : Rl} {f : Fr} {fb : Nat} {fc : List Value} {a : Option Addr} {n cc : Nat} {b : Bool} {l : List (Nat × List Nat)} {c : Nat} {lt : List Txt} (h : R3 E V wr g k r f fb fc a n cc b l c lt) (q : Nat) : R3 E V (wr.drewN q) g k r f fb fc a n cc b l c lt :=
  ⟨ri2_drewN h.1 q, h.2.1.keep (fun _ _ _ => rfl) (fun _ _ _ _ => rfl), h.2.2⟩
end Go.Proofs.Ytofigofaiadffaa
