/- Names as texts, spawns, what spawned a name: the code's and the document's own. -/
import Derived.Test.YtgkpioleipefmaaStr
import Derived.ArgAppend
import Derived.Lib.SlBytesConst
namespace Go.Proofs.Ytgkpioleipefmaa
open Go.RowKit Go.ChangeShapes Go.WideShapes Go.ChangeAt Go.Deep

theorem below_drewN {B : Nat} {w w' : World} (h : Below B w w') (n : Nat) : Below B w (w'.drewN n) := ⟨h.os, h.tape, h.output, h.size, h.block⟩
/-- The digit of a byte. -/
def hexN (n : Nat) : Nat := if n < 10 then 48 + n else 87 + n
def hexB (c : UInt8) : UInt8 := (hexN c.toNat).toUInt8
/-- The text of a name that may be. -/
def textL (l : List UInt8) : List UInt8 := 114 :: l.map hexB
def textOf (l : List UInt8) : List UInt8 := if validL l then textL l else []
def uN (l : List UInt8) : List Nat := l.map UInt8.toNat
theorem bstr_bs (l : List UInt8) : bstr (uN l) = bs l := by
  apply bytes_inj
  rw [bs_list]
  unfold bstr uN
  rw [strOfNums_data, List.map_map, List.map_map]
  conv => rhs; rw [← List.map_id l]
  apply List.map_congr_left
  intro a _
  simp
theorem hex_at : ∀ n : Fin 16, ([48, 49, 50, 51, 52, 53, 54, 55, 56, 57, 97, 98, 99, 100, 101, 102] : List UInt8)[n.1]? = some (hexB n.1.toUInt8) := by decide +kernel
theorem hex_of {c : UInt8} (h : c.toNat < 16) : ([48, 49, 50, 51, 52, 53, 54, 55, 56, 57, 97, 98, 99, 100, 101, 102] : List UInt8)[c.toNat]? = some (hexB c) := by
  have := hex_at ⟨c.toNat, h⟩
  simpa using this
def digS : ByteArray := ⟨#[48, 49, 50, 51, 52, 53, 54, 55, 56, 57, 97, 98, 99, 100, 101, 102]⟩

set_option maxRecDepth 100000 in
set_option maxHeartbeats 1000000 in
theorem refValid_any (s : ByteArray) (hs : s.size ≤ maxLen) (w : World) : Calls Try.prog 42 #[.string s] w fun e w' => e = .returned (.bool (validL s.data.toList)) ∧ w' = w := by
  have hsz : s.size = s.data.toList.length := Lib.size_eq s
  unfold maxLen at hs
  have HS := hide hsz
  clear hsz
  go_enter Try.func42, Try.ntmps42
  go_wp2
  go_loopw [3] (fun i wr => wr = w ∧ ∃ k : Nat, k ≤ s.size ∧ k ≤ 13 ∧ i = .int .i64 (k : Nat) ∧ Hid (∀ j c, j < k → s.data.toList[j]? = some c → c.toNat < 16)) (fun i _ => s.size - (intOf i).toNat)
  case atStart => exact ⟨rfl, 0, by omega, by omega, rfl, fun j c hj => by omega⟩
  case round =>
    obtain ⟨rfl, k, hk2, hk3, rfl, hh⟩ := hrel
    by_cases hlt : k < s.size
    · have hlt' : (k : Int) < (s.size : Int) := by omega
      by_cases h12 : k ≤ 12
      · have h12' : (k : Int) ≤ 12 := by omega
        have hg : ∃ x, s.data.toList[k]? = some x := ⟨s.data.toList[k]'(by rw [← Lib.size_eq]; exact hlt), List.getElem?_eq_getElem _⟩
        obtain ⟨x, hx⟩ := hg
        have ik := fun w => index_str (kd := .i64) (t := 22) Try.underlying22 (s := s) (j := k) hx w
        have HX := hide hx
        by_cases h16 : 16 ≤ x.toNat
        · have q : (16 : Int) ≤ (x.toNat : Int) := by omega
          have HV := hide (valid_bad HX.out h16)
          clear hx h16
          go_wp2
          go_ret
          exact ⟨ret_b HV.out.symm, rfl⟩
        · have q : ¬ (16 : Int) ≤ (x.toNat : Int) := by omega
          have HN := hide (show ∀ j c, j < k + 1 → s.data.toList[j]? = some c → c.toNat < 16 from fun j c hj hc => by
            rcases Nat.lt_or_ge j k with h | h
            · exact hh.out j c h hc
            · have : j = k := by omega
              subst this
              rw [HX.out] at hc
              cases hc
              omega)
          clear hx h16 hh
          go_wp2
          go_roundw
          case rel => exact ⟨by trivial, k + 1, by omega, by omega, by go_num, HN⟩
          case measure => simp [intOf]; omega
      · have h12' : ¬ (k : Int) ≤ 12 := by omega
        have hz : ¬ (s.size : Int) ≤ 12 := by omega
        have HV := hide (valid_long (l := s.data.toList) (by rw [← HS.out]; omega))
        clear hh
        go_wp2
        go_ret
        exact ⟨ret_b HV.out.symm, rfl⟩
    · have hlt' : ¬ (k : Int) < (s.size : Int) := by omega
      by_cases h12 : s.size ≤ 12
      · have h12' : (s.size : Int) ≤ 12 := by omega
        have HV := hide (show validL s.data.toList = true from valid_all (by rw [← HS.out]; exact h12) (fun j c hc => hh.out j c (by
          rcases Nat.lt_or_ge j s.data.toList.length with q | q
          · rw [← HS.out] at q; omega
          · rw [List.getElem?_eq_none q] at hc; cases hc) hc))
        clear hh
        go_wp2
        go_ret
        exact ⟨ret_b HV.out.symm, rfl⟩
      · have h12' : ¬ (s.size : Int) ≤ 12 := by omega
        have HV := hide (valid_long (l := s.data.toList) (by rw [← HS.out]; omega))
        clear hh
        go_wp2
        go_ret
        exact ⟨ret_b HV.out.symm, rfl⟩

theorem take_next {l : List UInt8} {k : Nat} {c : UInt8} (h : l[k]? = some c) : l.take (k + 1) = l.take k ++ [c] := by
  rw [List.take_add_one, h]; rfl

theorem cell_new1 (w : World) (v : Value) (t : TypeId) (fz : Nat × Nat) : (w.alloc (.cells #[v] t fz)).cell? ⟨w.heap.size, 0, none⟩ = some v := by
  have : (w.alloc (.cells #[v] t fz)).heap[w.heap.size]? = some (.cells #[v] t fz) := heap_alloc_new w _
  unfold World.cell?
  rw [this]
  rfl
/-- A text in the making: the first row, marked as a string's, or a row of one's own. -/
def TxtRow (w : World) (B : Nat) (v : Value) (l : List UInt8) : Prop :=
  (∃ g, v = .slice (some ⟨g, 0, none⟩) 1 1 ∧ B ≤ g ∧ ∃ c : UInt8, l = [c] ∧ w.cell? ⟨g, 0, none⟩ = some (.int .u8 c.toNat)) ∨ w.ownsRow B 5 1 v l.length (bV (uN l))
theorem TxtRow.reads {w : World} {B : Nat} {v : Value} {l : List UInt8} (h : TxtRow w B v l) : ∃ a cap, v = .slice a l.length cap ∧ Reads w a (bV (uN l)) := by
  rcases h with ⟨g, rfl, _, c, rfl, h⟩ | h
  · refine ⟨_, _, rfl, .inr ⟨g, 0, rfl, fun j u hu => ?_⟩⟩
    cases j with
    | zero => simp [bV, uN] at hu; subst hu; simpa using h
    | succ j => simp [bV, uN] at hu
  · obtain ⟨a, cap, m, rfl, hm, hr⟩ := reads_own_any h
    refine ⟨a, cap, ?_, hr⟩
    rw [← hm.out, uN, List.length_map]
theorem TxtRow.below {w w' : World} {B : Nat} {v : Value} {l : List UInt8} (h : TxtRow w B v l) (hb : Below w.heap.size w w') : TxtRow w' B v l := by
  rcases h with ⟨g, rfl, hB, c, rfl, h⟩ | h
  · exact .inl ⟨g, rfl, hB, c, rfl, keep_cell h hb⟩
  · exact .inr (own_below h hb)
theorem TxtRow.alloc {w : World} {B : Nat} {v : Value} {l : List UInt8} (h : TxtRow w B v l) (o : Obj) : TxtRow (w.alloc o) B v l := h.below ((Below.refl _ _).alloc (Nat.le_refl _) _)
theorem uN_append (a b : List UInt8) : uN (a ++ b) = uN a ++ uN b := by simp [uN]
theorem append_txt {w : World} {ops : Array Oper} {rest : List Oper} {o : Oper} {a : Act} {Q : Exit → Act → World → Prop} (hgd : o.guard = none) (s x : Operand)
    (ho : o.op = .call { callee := .builtin .append, args := #[s, x], argTypes := #[34, 34] })
    (B : Nat) (v : Value) (l : List UInt8) (hs : a.eval s = v) (hown : TxtRow w B v l)
    (g : Nat) (c : UInt8) (hx : a.eval x = .slice (some ⟨g, 0, none⟩) 1 1) (hr : w.cell? ⟨g, 0, none⟩ = some (.int .u8 c.toNat))
    (hb : l.length ≤ 100000) (hB : B ≤ w.heap.size)
    (h : ∀ v' w', TxtRow w' B v' (l ++ [c]) → Below B w w' → wpList Try.prog ops Q rest (a.put o.dst v') w') :
    wpList Try.prog ops Q (o :: rest) a w := by
  obtain ⟨i0, hi, hz0, hz1, hz2⟩ := info_parts Try.info5
  have hone : ∀ j u, (bV (uN [c]))[j]? = some u → w.cell? ((⟨g, 0, none⟩ : Addr).add j) = some u := by
    intro j u hu
    cases j with
    | zero => simp [bV, uN] at hu; subst hu; rw [add_none]; simpa using hr
    | succ j => simp [bV, uN] at hu
  rcases hown with ⟨g1, hv, hB1, c1, hl, h1⟩ | hown
  · subst hl
    refine wpList_append_grows w hgd s x 34 ho 5 i0 (.int .u8 0) 1 1 Try.underlying34 hi hz0 hz1 hz2 rfl (by decide) (some ⟨g1, 0, none⟩) 1 1 (bV (uN [c1])) (by rw [hs, hv]) (fun h => by cases h) (by simp [bV, uN]) ?_ ⟨g, 0, none⟩ 1 1 (bV (uN [c])) hx (by simp [bV, uN]) hone (bV_one _) (by omega) (by unfold maxLen; omega) (by omega) ?_
    · intro b hb j u hu
      cases hb
      cases j with
      | zero => simp [bV, uN] at hu; subst hu; rw [add_none]; simpa using h1
      | succ j => simp [bV, uN] at hu
    · intro v' w' h2 h3
      refine h v' w' (.inr ?_) ((Below.refl _ _).grown h3 hB (fun k hk => by cases hk))
      rw [uN_append, bV_append]
      exact own_mono h2 hB
  · refine wpList_append_own _ hgd s x 34 ho B 5 i0 (.int .u8 0) 1 1 Try.underlying34 hi hz0 hz1 hz2 rfl (by decide) v l.length (bV (uN l)) hs hown ⟨g, 0, none⟩ 1 1 (bV (uN [c])) hx (by simp [bV, uN]) hone (bV_one _) (by unfold maxLen; omega) (by omega) hB ?_
    intro v' w' h2 h3 _
    refine h v' w' (.inr ?_) ((Below.refl _ _).grown h3 hB (fun k hk => (hown.lt k hk).1))
    rw [uN_append, bV_append, List.length_append]
    exact h2
theorem conv_str {t : TypeId} (ht : Try.prog.underlying t = some .string) {w : World} {B : Nat} {a : Option Addr} {cap n : Nat} {l : List UInt8} (h : TxtRow w B (.slice a n cap) l) : (convert 34 t (.slice a n cap)).run Try.prog w = .ok (.string (bs l)) w := by
  obtain ⟨a', cap', e, hr⟩ := h.reads
  simp only [Value.slice.injEq] at e
  obtain ⟨rfl, rfl, rfl⟩ := e
  rw [← bstr_bs]
  rcases hr with hr | ⟨b, off, rfl, hc⟩
  · have : l = [] := by simpa [bV, uN] using hr
    subst this
    cases a with
    | none => exact run_convert_bytes_nil w 34 5 Try.underlying34 Try.underlying5 0 cap t ht
    | some ad =>
      have hl : (loadCells ad 0).run Try.prog w = .ok (([] : List Int).map (Value.int .u8)).toArray w := by
        simpa using run_loadCells_list (P := Try.prog) w ad [] (by simp)
      show (convert 34 t (.slice (some ad) 0 cap)).run Try.prog w = _
      rw [run_convert_bytes_string w 34 t 5 _ 0 cap Try.underlying34 Try.underlying5 ht, run_bytesToString w ad 0 cap [] hl]
      rfl
  · have := run_convert_bytes_arg (P := Try.prog) w 34 5 Try.underlying34 Try.underlying5 b off l.length cap ((uN l).map fun (x : Nat) => (x : Int)) (by simp [uN]) (fun i hi => hc i _ (by simp [bV, uN, List.getD, hi])) t ht
    exact this

end Go.Proofs.Ytgkpioleipefmaa
