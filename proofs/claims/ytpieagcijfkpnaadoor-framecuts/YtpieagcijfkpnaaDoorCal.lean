/- What a cursor's calls come to, continued. -/
import Derived.Test.YtpieagcijfkpnaaDoorCur
namespace Go.Proofs.YtpieagcijfkpnaaDoor
open Go.RowKit

set_option maxRecDepth 100000 in
set_option maxHeartbeats 400000 in
theorem first_nil (a : Option Addr) (cap : Nat) (w : World) :
    Calls Tryd.prog 42 #[.slice a 0 cap] w fun e w' => e = .returned (decPair none) ∧ w' = w := by
  go_enter Tryd.func42, Tryd.ntmps42
  go_wp2
  go_loop [4] (fun c => c = .int .i64 (0 : Nat)) (fun _ => 0)
  case atStart => rfl
  case round =>
    subst hrel
    go_wp2
    go_ret2
    exact ⟨ret_none, rfl⟩

theorem first_any (a : Option Addr) (len cap : Nat) (bs : List Nat) (w : World) (hl : bs.length = len) (hB : Byt bs) (hlen : len ≤ 140737488355328) (hr : Reads w a (bV bs)) :
    Calls Tryd.prog 42 #[.slice a len cap] w fun e w' => e = .returned (decPair (dec bs)) ∧ w' = w := by
  subst hl
  rcases hr with h | ⟨b, off, rfl, hc⟩
  · have : bs = [] := by simpa [bV] using h
    subst this
    exact first_nil a cap w
  · exact first_some b off cap bs w hB hlen hc

set_option maxRecDepth 100000 in
set_option maxHeartbeats 400000 in
theorem unfold_any (u : Nat) (w : World) (h : u < 18446744073709551616) :
    Calls Tryd.prog 45 #[.int .u64 (u : Nat)] w fun e w' => e = .returned (.int .i64 (unfoldN u)) ∧ w' = w := by
  by_cases h1 : u % 2 = 1
  · have HU := hide (unfold_odd u h h1)
    have ht : (bits .and .u64 (u : Int) 1 == 1) = true := by rw [and1_u64 u h, h1]; rfl
    clear h1
    go_enter Tryd.func45, Tryd.ntmps45
    go_wp2
    go_ret
    exact ⟨ret_int HU.out, rfl⟩
  · have HU := hide (unfold_even u h1)
    have ht : (bits .and .u64 (u : Int) 1 == 1) = false := by rw [and1_u64 u h, beq_eq_false_iff_ne]; omega
    clear h1
    go_enter Tryd.func45, Tryd.ntmps45
    go_wp2
    go_ret
    exact ⟨ret_int HU.out, rfl⟩

set_option maxRecDepth 100000 in
set_option maxHeartbeats 400000 in
theorem spoil_any (c : Nat) (v b : Value) (w : World) (h0 : w.cell? ⟨c, 0, none⟩ = some v) (h1 : w.cell? ⟨c, 1, none⟩ = some b) (f0 : w.frozen? ⟨c, 0, none⟩ = false) (f1 : w.frozen? ⟨c, 1, none⟩ = false) :
    Calls Tryd.prog 43 #[.pointer (some ⟨c, 0, none⟩)] w fun e w' => e = .returned (.tuple #[]) ∧ (w.setCell ⟨c, 0, none⟩ (.slice none 0 0)).setCell ⟨c, 1, none⟩ (.bool true) = w' := by
  go_enter Tryd.func43, Tryd.ntmps43
  go_wp2
  go_end0
  exact ⟨rfl, rfl⟩

set_option maxRecDepth 100000 in
set_option maxHeartbeats 400000 in
theorem skip_any (c : Nat) (a : Option Addr) (len cap k : Nat) (w : World) (h0 : w.cell? ⟨c, 0, none⟩ = some (.slice a len cap)) (f0 : w.frozen? ⟨c, 0, none⟩ = false) (hk : k ≤ len) (hc : len ≤ cap) (hm : cap ≤ 9223372036854775807) :
    Calls Tryd.prog 44 #[.pointer (some ⟨c, 0, none⟩), .int .i64 (k : Nat)] w fun e w' => e = .returned (.tuple #[]) ∧ ∃ a' cap', w.setCell ⟨c, 0, none⟩ (.slice a' (len - k) cap') = w' ∧ len - k ≤ cap' ∧ cap' ≤ cap ∧ (k < len → a' = a.map (·.add k)) := by
  go_enter Tryd.func44, Tryd.ntmps44
  go_wp2
  · have hck : cap = k := by assumption
    go_end0
    exact ⟨rfl, _, _, rfl, by omega, by omega, fun h => by omega⟩
  · go_end0
    exact ⟨rfl, _, _, rfl, by omega, by omega, fun h => rfl⟩

set_option maxRecDepth 100000 in
set_option maxHeartbeats 400000 in
theorem left_any (c : Nat) (a : Option Addr) (len cap : Nat) (w : World) (h0 : w.cell? ⟨c, 0, none⟩ = some (.slice a len cap)) :
    Calls Tryd.prog 48 #[.pointer (some ⟨c, 0, none⟩)] w fun e w' => e = .returned (.int .i64 (len : Nat)) ∧ w' = w := by
  go_enter Tryd.func48, Tryd.ntmps48
  go_wp2
  go_ret
  exact ⟨rfl, rfl⟩

set_option maxRecDepth 100000 in
set_option maxHeartbeats 400000 in
theorem end_any (c : Nat) (a : Option Addr) (len cap : Nat) (b : Bool) (w : World) (h0 : w.cell? ⟨c, 0, none⟩ = some (.slice a len cap)) (h1 : w.cell? ⟨c, 1, none⟩ = some (.bool b)) :
    Calls Tryd.prog 27 #[.pointer (some ⟨c, 0, none⟩)] w fun e w' => e = .returned (.bool (!b && (len : Int) == 0)) ∧ w' = w := by
  cases b
  all_goals
    go_enter Tryd.func27, Tryd.ntmps27
    go_wp2
    go_ret
    exact ⟨rfl, rfl⟩

/-- The first cells of a slice that lies between the blocks B and T, and not in block c. -/
def ReadsN (w : World) (B T c : Nat) (a : Option Addr) (xs : List Value) : Prop := xs = [] ∨ ∃ b off, a = some ⟨b, off, none⟩ ∧ B ≤ b ∧ b < T ∧ b ≠ c ∧ ∀ j u, xs[j]? = some u → w.cell? ⟨b, off + j, none⟩ = some u

theorem ReadsN.reads {w : World} {B T c : Nat} {a : Option Addr} {xs : List Value} (h : ReadsN w B T c a xs) : Reads w a xs := by
  rcases h with h | ⟨b, off, e, _, _, _, h⟩
  · exact .inl h
  · exact .inr ⟨b, off, e, h⟩

theorem ReadsN.keep {w w' : World} {B T c : Nat} {a : Option Addr} {xs : List Value} (h : ReadsN w B T c a xs) (hs : ∀ k, B ≤ k → k < T → k ≠ c → w'.heap[k]? = w.heap[k]?) : ReadsN w' B T c a xs := by
  rcases h with h | ⟨b, off, e, h1, h2, h3, h⟩
  · exact .inl h
  · refine .inr ⟨b, off, e, h1, h2, h3, fun j u hu => ?_⟩
    rw [World.cell?_of_block (w := w) (a := ⟨b, off + j, none⟩) (hs b h1 h2 h3)]; exact h j u hu

theorem ReadsN.drop {w : World} {B T c : Nat} {a : Option Addr} {bs : List Nat} (h : ReadsN w B T c a (bV bs)) (k : Nat) {a' : Option Addr} (ha : k < bs.length → a' = a.map (·.add k)) : ReadsN w B T c a' (bV (bs.drop k)) := by
  by_cases hk : k < bs.length
  · rcases h with h | ⟨b, off, e, h1, h2, h3, h⟩
    · have : bs = [] := by simpa [bV] using h
      subst this; simp at hk
    · refine .inr ⟨b, off + k, by rw [ha hk, e]; simp [add_none], h1, h2, h3, fun j u hu => ?_⟩
      rw [Nat.add_assoc]
      exact h (k + j) u (by simpa [bV] using hu)
  · exact .inl (by simp [bV]; omega)

/-- A cursor at block c whose rest is this slice over these bytes, bad or not; all that it leads to lies between the blocks B and T. -/
def CurA (w : World) (B T c : Nat) (a : Option Addr) (cap : Nat) (bs : List Nat) (bad : Bool) : Prop :=
  w.cell? ⟨c, 0, none⟩ = some (.slice a bs.length cap) ∧ w.cell? ⟨c, 1, none⟩ = some (.bool bad) ∧ w.frozen? ⟨c, 0, none⟩ = false ∧ w.frozen? ⟨c, 1, none⟩ = false ∧
    bs.length ≤ cap ∧ cap ≤ 140737488355328 ∧ Byt bs ∧ ReadsN w B T c a (bV bs) ∧ B ≤ c ∧ c < T ∧ T ≤ w.heap.size

/-- A cursor at block c, over these bytes, bad or not. -/
def Cur (w : World) (B T c : Nat) (bs : List Nat) (bad : Bool) : Prop := ∃ a cap, CurA w B T c a cap bs bad

theorem CurA.keep {w w' : World} {B T c : Nat} {a : Option Addr} {cap : Nat} {bs : List Nat} {bad : Bool} (h : CurA w B T c a cap bs bad) (hsz : w.heap.size ≤ w'.heap.size) (hs : ∀ k, B ≤ k → k < T → w'.heap[k]? = w.heap[k]?) : CurA w' B T c a cap bs bad := by
  obtain ⟨h1, h2, h3, h4, h5, h6, h7, h8, h9, h10, h11⟩ := h
  have hb := hs c h9 h10
  refine ⟨?_, ?_, ?_, ?_, h5, h6, h7, h8.keep (fun k a b _ => hs k a b), h9, h10, by omega⟩
  · rw [World.cell?_of_block (w := w) (a := ⟨c, 0, none⟩) hb]; exact h1
  · rw [World.cell?_of_block (w := w) (a := ⟨c, 1, none⟩) hb]; exact h2
  · rw [World.frozen?_of_block (w := w) (a := ⟨c, 0, none⟩) hb]; exact h3
  · rw [World.frozen?_of_block (w := w) (a := ⟨c, 1, none⟩) hb]; exact h4

theorem CurA.below {w w' : World} {B T c : Nat} {a : Option Addr} {cap : Nat} {bs : List Nat} {bad : Bool} (h : CurA w B T c a cap bs bad) (hb : Below w.heap.size w w') : CurA w' B T c a cap bs bad := by
  have h' := h
  obtain ⟨_, _, _, _, _, _, _, _, _, _, h11⟩ := h'
  exact h.keep hb.size (fun k _ hk => hb.block k (by omega))

theorem Cur.keep {w w' : World} {B T c : Nat} {bs : List Nat} {bad : Bool} (h : Cur w B T c bs bad) (hsz : w.heap.size ≤ w'.heap.size) (hs : ∀ k, B ≤ k → k < T → w'.heap[k]? = w.heap[k]?) : Cur w' B T c bs bad := by
  obtain ⟨a, cap, h⟩ := h
  exact ⟨a, cap, h.keep hsz hs⟩

theorem Cur.below {w w' : World} {B T c : Nat} {bs : List Nat} {bad : Bool} (h : Cur w B T c bs bad) (hb : Below w.heap.size w w') : Cur w' B T c bs bad := by
  obtain ⟨a, cap, h⟩ := h
  exact ⟨a, cap, h.below hb⟩

end Go.Proofs.YtpieagcijfkpnaaDoor
