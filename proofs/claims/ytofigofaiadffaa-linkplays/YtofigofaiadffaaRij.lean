/- Slices of what is kept, at both ends. -/
import Derived.Test.YtofigofaiadffaaRih
namespace Go.Proofs.Ytofigofaiadffaa
open Go.RowKit Go.ChangeShapes Go.WideShapes Go.ChangeAt Go.Deep

theorem slice_fromK {b n kc k : Nat} (hk : k ≤ n) (hc : n ≤ kc) : ∃ a1 c1, (∀ w, (Instr.slice 29 (.slice (some ⟨b, 0, none⟩) n kc) (some (.int .i64 (k : Int))) none none).run Try.prog w = .ok (.slice a1 (n - k) c1) w) ∧ a1 ≠ none ∧ ∀ (w : World) (zs : List KpM), zs.length = n - k → Reads w (some ⟨b, k * 2, none⟩) (krV zs) → Reads w a1 (krV zs) := by
  have hel : Try.prog.underlying 29 = some (.slice (Try.prog.elem 29)) := by kernel_rfl
  have hsz : Try.prog.elem 29 = 92 := by kernel_rfl
  have hs : ∀ w, (sizeOf 92).run Try.prog w = .ok 2 w := fun w => by kernel_rfl
  refine ⟨if kc = k then some ⟨b, 0, none⟩ else some ⟨b, k * 2, none⟩, kc - k, fun w => ?_, by split <;> simp, fun w zs hl hr => ?_⟩
  · rw [run_slice_l w 29 (some ⟨b, 0, none⟩) n kc hel .i64 (k : Int) (by omega) (by omega)]
    rw [hsz, hs]
    simp only [Result.andThen, sliced, Int.toNat_natCast]
    by_cases h : kc = k
    · simp [h]
    · simp [h, add_none]
  · by_cases h : kc = k
    · have : zs = [] := List.eq_nil_of_length_eq_zero (by omega)
      subst this
      exact .inl rfl
    · rw [if_neg h]; exact hr
theorem slice_toK {b n kc k : Nat} (hk : k ≤ n) (hc : n ≤ kc) : ∃ c1, ∀ w, (Instr.slice 29 (.slice (some ⟨b, 0, none⟩) n kc) none (some (.int .i64 (k : Int))) none).run Try.prog w = .ok (.slice (some ⟨b, 0, none⟩) k c1) w := by
  have hel : Try.prog.underlying 29 = some (.slice (Try.prog.elem 29)) := by kernel_rfl
  have hsz : Try.prog.elem 29 = 92 := by kernel_rfl
  have hs : ∀ w, (sizeOf 92).run Try.prog w = .ok 2 w := fun w => by kernel_rfl
  refine ⟨kc, fun w => ?_⟩
  rw [run_slice_h w 29 (some ⟨b, 0, none⟩) n kc hel .i64 (k : Int) (by omega) (by omega)]
  rw [hsz, hs]
  simp only [Result.andThen, sliced, Int.toNat_natCast]
  simp [Addr.add_zero']
theorem reads_ownV {w : World} {B T z n c : Nat} {a : Option Addr} {xs : List Value} (h : w.ownsRow B T z (.slice a n c) n xs) : Reads w a xs ∧ (a = none → n = 0 ∧ c = 0) := by
  have hl := h.1
  rcases h.2 with ⟨e, h0⟩ | ⟨g, cap, cur, e, h1⟩
  · subst h0
    simp only [Value.slice.injEq] at e
    refine ⟨.inl (List.eq_nil_of_length_eq_zero (by simpa using hl)), fun _ => ⟨rfl, e.2.2⟩⟩
  · have e' := e
    simp only [Value.slice.injEq] at e
    obtain ⟨rfl, _, _⟩ := e
    refine ⟨.inr ⟨g, 0, rfl, fun j u hu => ?_⟩, fun h => by cases h⟩
    have := h.cells (g := g) rfl j u hu
    rwa [add_none] at this
theorem app_kcL {w : World} {ops : Array Oper} {rest : List Oper} {o : Oper} {a : Act} {Q : Exit → Act → World → Prop} (hgd : o.guard = none) (s x : Operand)
    (ho : o.op = .call { callee := .builtin .append, args := #[s, x], argTypes := #[29, 29] }) (hs : a.eval s = .slice none 0 0)
    (ad : Option Addr) (m c : Nat) (zs : List KpM) (hx : a.eval x = .slice ad m c) (hnil : ad = none → m = 0 ∧ c = 0) (hl : zs.length = m) (hr : Reads w ad (krV zs)) (hb : m ≤ 1000000)
    (h : ∀ a' c' w', w'.ownsRow w.heap.size 92 2 (.slice a' m c') m (krV zs) → Below w.heap.size w w' → wpList Try.prog ops Q rest (a.put o.dst (.slice a' m c')) w') : wpList Try.prog ops Q (o :: rest) a w :=
  wpList_plain hgd fun _ hK => app_kc s x ho hs ad m c zs hx hnil hl hr hb fun a' c' w' h1 h2 => hK _ _ (h a' c' w' h1 h2)
theorem app_kdL {w : World} {ops : Array Oper} {rest : List Oper} {o : Oper} {act : Act} {Q : Exit → Act → World → Prop} (hgd : o.guard = none) (s x : Operand)
    (ho : o.op = .call { callee := .builtin .append, args := #[s, x], argTypes := #[29, 29] }) (B : Nat) (a : Option Addr) (n cc : Nat) (ys : List KpM) (hs : act.eval s = .slice a n cc) (hown : w.ownsRow B 92 2 (.slice a n cc) n (krV ys)) (hB : B ≤ w.heap.size) (hn : n ≤ 1000000)
    (ad : Option Addr) (m c : Nat) (zs : List KpM) (hx : act.eval x = .slice ad m c) (hnil : ad = none → m = 0 ∧ c = 0) (hl : zs.length = m) (hr : Reads w ad (krV zs)) (hb : m ≤ 1000000)
    (h : ∀ a' c' w', w'.ownsRow B 92 2 (.slice a' (n + m) c') (n + m) (krV (ys ++ zs)) → w.grownBy w' (Value.slice a n cc).ownBlock → wpList Try.prog ops Q rest (act.put o.dst (.slice a' (n + m) c')) w') : wpList Try.prog ops Q (o :: rest) act w :=
  wpList_plain hgd fun _ hK => app_kd s x ho B a n cc ys hs hown hB hn ad m c zs hx hnil hl hr hb fun a' c' w' h1 h2 => hK _ _ (h a' c' w' h1 h2)
end Go.Proofs.Ytofigofaiadffaa
