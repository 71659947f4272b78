/- How the arguments of the laws read: rows of bytes, of numbers, of yes and no. -/
import Derived.Test.YtdhekagkhhejpaaTxt
import Derived.Deep.Grids
namespace Go.Proofs.Ytdhekagkhhejpaa
open Go.RowKit Go.ChangeShapes Go.WideShapes Go.ChangeAt Go.Deep

def tV (cs : List Bool) : List Value := cs.map fun c => Value.bool c

theorem own_slice {w : World} {B n : Nat} {v : Value} {xs : List Value} (h : w.ownsRow B 5 1 v n xs) : ∃ a cap, v = .slice a n cap ∧ n ≤ cap := by
  rcases h.2 with ⟨rfl, rfl⟩ | ⟨g, cap, cur, rfl, _, _, h1, _⟩
  · exact ⟨none, 0, rfl, Nat.le_refl _⟩
  · exact ⟨_, cap, rfl, h1⟩

theorem reads_plain {w : World} {x : Addr} {k : Nat} {u : Value} (h : w.cell? (x.add k) = some u) (h0 : ∃ u0, w.cell? (x.add 0) = some u0) : ∃ b off, x = ⟨b, off, none⟩ := by
  obtain ⟨b, off, spot⟩ := x
  obtain ⟨u0, h0⟩ := h0
  have hspot : spot = none := by simpa [Addr.add] using World.cell?_spot h0
  subst hspot
  exact ⟨b, off, rfl⟩

theorem arg_bytes {H : Type} {enc : TypeId × Value → H} {W : World} {t e : TypeId} (ht : Try.prog.underlying t = some (.slice e)) (he : Try.prog.underlying e = some (.int .u8)) (hc : Try.prog.cellsOf e = 1)
    {a : Option Addr} {len cap : Nat} {d : DataW H} {p : List MemPlace} (h : DataW.Trod enc Try.prog W 0 (fun _ => true) true t (.slice a len cap) d p) :
    ∃ bs : List Nat, bs.length = len ∧ Byt bs ∧ len ≤ cap ∧ (cap ≤ maxLen ∧ (a = none → len = 0 ∧ cap = 0)) ∧ Reads W a (bV bs) := by
  obtain ⟨fuel, hf⟩ := h
  rcases open_ints ht he hc hf with ⟨hcs, _⟩ | ⟨x, l, c, zs, hcs, _, hl, hm, hz, _, hcell, hwz⟩
  · simp [Value.cells] at hcs
    obtain ⟨rfl, rfl, rfl⟩ := hcs
    exact ⟨[], rfl, (fun x hx => by cases hx), Nat.le_refl _, ⟨by unfold maxLen; omega, fun _ => ⟨rfl, rfl⟩⟩, .inl rfl⟩
  · simp [Value.cells] at hcs
    obtain ⟨rfl, rfl, rfl⟩ := hcs
    have hzl : zs.length = cap := by simpa using hz
    have hb : ∀ n ∈ zs, 0 ≤ n ∧ n ≤ 255 := fun n hn => bounds_u8 (hwz n hn)
    refine ⟨(zs.take len).map Int.toNat, by simp; omega, ?_, hl, ⟨hm, fun h => by cases h⟩, ?_⟩
    · intro y hy
      simp only [List.mem_map] at hy
      obtain ⟨z, hz1, rfl⟩ := hy
      have := hb z (List.mem_of_mem_take hz1); omega
    · by_cases h0 : len = 0
      · exact .inl (by simp [bV, h0])
      · obtain ⟨b, off, rfl, hcb⟩ := ints_at hcell (by omega)
        refine .inr ⟨b, off, rfl, fun j u hu => ?_⟩
        have hj : j < len := by
          rcases Nat.lt_or_ge j len with h | h
          · exact h
          · rw [List.getElem?_eq_none (by simp [bV]; omega)] at hu; cases hu
        rw [hcb j (by omega)]
        have hjz : j < zs.length := by omega
        simp [bV, hj, hjz] at hu
        subst hu
        have := hb zs[j] (List.getElem_mem _)
        simp [List.getD, hjz]; omega

theorem arg_ints {H : Type} {enc : TypeId × Value → H} {W : World} {t e : TypeId} (ht : Try.prog.underlying t = some (.slice e)) (he : Try.prog.underlying e = some (.int .i64)) (hc : Try.prog.cellsOf e = 1)
    {a : Option Addr} {len cap : Nat} {d : DataW H} {p : List MemPlace} (h : DataW.Trod enc Try.prog W 0 (fun _ => true) true t (.slice a len cap) d p) :
    ∃ ns : List Int, ns.length = len ∧ In64 ns ∧ len ≤ cap ∧ (cap ≤ maxLen ∧ (a = none → len = 0 ∧ cap = 0)) ∧ Reads W a (iV ns) := by
  obtain ⟨fuel, hf⟩ := h
  rcases open_ints ht he hc hf with ⟨hcs, _⟩ | ⟨x, l, c, zs, hcs, _, hl, hm, hz, _, hcell, hwz⟩
  · simp [Value.cells] at hcs
    obtain ⟨rfl, rfl, rfl⟩ := hcs
    exact ⟨[], rfl, (fun x hx => by cases hx), Nat.le_refl _, ⟨by unfold maxLen; omega, fun _ => ⟨rfl, rfl⟩⟩, .inl rfl⟩
  · simp [Value.cells] at hcs
    obtain ⟨rfl, rfl, rfl⟩ := hcs
    have hzl : zs.length = cap := by simpa using hz
    refine ⟨zs.take len, by simp; omega, fun n hn => bounds_i64 (hwz n (List.mem_of_mem_take hn)), hl, ⟨hm, fun h => by cases h⟩, ?_⟩
    by_cases h0 : len = 0
    · exact .inl (by simp [iV, h0])
    · obtain ⟨b, off, rfl, hcb⟩ := ints_at hcell (by omega)
      refine .inr ⟨b, off, rfl, fun j u hu => ?_⟩
      have hj : j < len := by
        rcases Nat.lt_or_ge j len with h | h
        · exact h
        · rw [List.getElem?_eq_none (by simp [iV]; omega)] at hu; cases hu
      rw [hcb j (by omega)]
      have hjz : j < zs.length := by omega
      simp [iV, hj, hjz] at hu
      subst hu
      simp [List.getD, hjz]

theorem arg_bools {H : Type} {enc : TypeId × Value → H} {W : World} {t e : TypeId} (ht : Try.prog.underlying t = some (.slice e)) (he : Try.prog.underlying e = some .bool) (hc : Try.prog.cellsOf e = 1)
    {a : Option Addr} {len cap : Nat} {d : DataW H} {p : List MemPlace} (h : DataW.Trod enc Try.prog W 0 (fun _ => true) true t (.slice a len cap) d p) :
    ∃ cs : List Bool, cs.length = len ∧ len ≤ cap ∧ (cap ≤ maxLen ∧ (a = none → len = 0 ∧ cap = 0)) ∧ Reads W a (tV cs) := by
  obtain ⟨fuel, hf⟩ := h
  rcases open_bools ht he hc hf with ⟨hcs, _⟩ | ⟨x, l, c, B, hcs, _, hl, hm, _, hcell⟩
  · simp [Value.cells] at hcs
    obtain ⟨rfl, rfl, rfl⟩ := hcs
    exact ⟨[], rfl, Nat.le_refl _, ⟨by unfold maxLen; omega, fun _ => ⟨rfl, rfl⟩⟩, .inl rfl⟩
  · simp [Value.cells] at hcs
    obtain ⟨rfl, rfl, rfl⟩ := hcs
    refine ⟨(List.range len).map B, by simp, hl, ⟨hm, fun h => by cases h⟩, ?_⟩
    by_cases h0 : len = 0
    · exact .inl (by simp [tV, h0])
    · obtain ⟨b, off, rfl⟩ := reads_plain (hcell 0 (by omega)) ⟨_, hcell 0 (by omega)⟩
      refine .inr ⟨b, off, rfl, fun j u hu => ?_⟩
      have hj : j < len := by
        rcases Nat.lt_or_ge j len with h | h
        · exact h
        · rw [List.getElem?_eq_none (by simp [tV]; omega)] at hu; cases hu
      rw [← add_none, hcell j (by omega)]
      simp [tV, hj] at hu
      rw [hu]

end Go.Proofs.Ytdhekagkhhejpaa
