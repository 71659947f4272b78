/- Read: the name whose text it is; the code's and the document's own. -/
import Derived.Test.YtbnefomabbepbaaCommon
namespace Go.Proofs.Ytbnefomabbepbaa
open Go.RowKit Go.ChangeShapes Go.WideShapes Go.ChangeAt Go.Deep

def digL : List UInt8 := [48, 49, 50, 51, 52, 53, 54, 55, 56, 57, 97, 98, 99, 100, 101, 102]
/-- Which digit a byte is; 16: none. -/
def unhexN (c : UInt8) : Nat := digL.findIdx (· == c)
theorem all_u8 {p : UInt8 → Prop} (h : ∀ n : Fin 256, p (UInt8.ofNat n.1)) (c : UInt8) : p c := by
  have := h ⟨c.toNat, c.toNat_lt⟩
  simpa using this
theorem index_hex (c : UInt8) : Lib.indexByte digL c = if unhexN c < 16 then (unhexN c : Int) else -1 :=
  all_u8 (p := fun c => Lib.indexByte digL c = if unhexN c < 16 then (unhexN c : Int) else -1) (by decide +kernel) c
theorem unhex_le (c : UInt8) : unhexN c ≤ 16 := all_u8 (p := fun c => unhexN c ≤ 16) (by decide +kernel) c
theorem unhex_hex : ∀ n : Fin 16, unhexN (hexB n.1.toUInt8) = n.1 := by decide +kernel
theorem unhex_at {c x : UInt8} {k : Nat} (h : digL[k]? = some x) (hb : ∀ j, j < k → digL[j]? ≠ some c) : (x = c → unhexN c = k) := by
  intro e
  subst e
  unfold unhexN
  rw [List.findIdx_eq (by
    rcases Nat.lt_or_ge k digL.length with q | q
    · exact q
    · rw [List.getElem?_eq_none q] at h; cases h)]
  obtain ⟨hk, e⟩ := List.getElem?_eq_some_iff.1 h
  refine ⟨by simpa using e, fun j hj => ?_⟩
  have := hb j hj
  rw [List.getElem?_eq_getElem (by omega)] at this
  simpa using this
theorem unhex_none {c : UInt8} (hb : ∀ j, j < 16 → digL[j]? ≠ some c) : unhexN c = 16 := by
  unfold unhexN
  rw [show (16 : Nat) = digL.length from rfl, List.findIdx_eq_length]
  intro x hx
  obtain ⟨j, hj⟩ := List.getElem?_of_mem hx
  have hj2 : j < 16 := by
    rcases Nat.lt_or_ge j digL.length with q | q
    · exact q
    · rw [List.getElem?_eq_none q] at hj; cases hj
  have := hb j hj2
  rw [hj] at this
  simpa using this
/-- Is a text a name's? -/
def readOk (l : List UInt8) : Bool := decide (l.head? = some 114) && decide (l.length ≤ 13) && (l.drop 1).all fun c => decide (unhexN c < 16)
def unB (c : UInt8) : UInt8 := (unhexN c).toUInt8
def readL (l : List UInt8) : List UInt8 := if readOk l then (l.drop 1).map unB else []
theorem read_parts {l : List UInt8} : readOk l = true ↔ l.head? = some 114 ∧ l.length ≤ 13 ∧ ∀ c ∈ l.drop 1, unhexN c < 16 := by
  simp [readOk, and_assoc]
theorem read_no {l : List UInt8} (h : ¬ (l.head? = some 114 ∧ l.length ≤ 13 ∧ ∀ c ∈ l.drop 1, unhexN c < 16)) : readOk l = false ∧ readL l = [] := by
  have : readOk l = false := by rw [← Bool.not_eq_true, read_parts]; exact h
  exact ⟨this, by unfold readL; rw [this]; rfl⟩
theorem read_yes {l : List UInt8} (h : l.head? = some 114 ∧ l.length ≤ 13 ∧ ∀ c ∈ l.drop 1, unhexN c < 16) : readOk l = true ∧ readL l = (l.drop 1).map unB := by
  have : readOk l = true := read_parts.2 h
  exact ⟨this, by unfold readL; rw [this]; rfl⟩
theorem unB_nat (c : UInt8) : (unB c).toNat = unhexN c := by
  have := unhex_le c
  unfold unB
  simp
  omega

set_option maxRecDepth 100000 in
set_option maxHeartbeats 1000000 in
theorem read_any (s : ByteArray) (hs : s.size ≤ 1000000) (w : World) : Calls Try.prog 8 #[.string s] w fun e w' => e = .returned (.tuple #[.string (bs (readL s.data.toList)), .bool (readOk s.data.toList)]) ∧ Below w.heap.size w w' := by
  have C := fun w => Try.strings_CutPrefix s ⟨#[114]⟩ w
  have hsz := Lib.size_eq s
  by_cases hp : s.data.toList.head? = some 114
  · obtain ⟨r, hr⟩ : ∃ r, s.data.toList = 114 :: r := by
      cases hq : s.data.toList with
      | nil => rw [hq] at hp; cases hp
      | cons a r => rw [hq] at hp; simp at hp; exact ⟨r, by rw [hp]⟩
    have e1 : Lib.hasPrefix s.data.toList (⟨#[114]⟩ : ByteArray).data.toList = true := by rw [hr]; simp [Lib.hasPrefix, List.isPrefixOf]
    have e2 : (⟨(Lib.trimPrefix s.data.toList (⟨#[114]⟩ : ByteArray).data.toList).toArray⟩ : ByteArray) = bs r := by
      unfold Lib.trimPrefix; rw [e1, hr]; rfl
    rw [e1, e2] at C
    clear e1 e2
    have HR := hide hr
    have hrz : r.length + 1 = s.size := by rw [hsz, hr]; rfl
    have htz := bs_size r
    have HT := hide (bs_list r)
    by_cases h12 : r.length ≤ 12
    · generalize bs r = t at C htz HT
      have h12' : ¬ (12 : Int) < (t.size : Int) := by omega
      clear hr hsz
      go_enter Try.func8, Try.ntmps8
      go_wp2_with (go_at_call 23; go_must (with_reducible refine (C _).mono ?_; (rintro e wz ⟨rfl, hwz⟩); subst hwz))
      clear C
      go_loopw [23, 6] (fun i id wr => Below wz.heap.size wz wr ∧ ∃ k : Nat, k ≤ t.size ∧ i = .int .i64 (k : Nat) ∧ TxtRow wr wz.heap.size id ((r.take k).map unB) ∧ Hid (∀ j c, j < k → r[j]? = some c → unhexN c < 16)) (fun i _ _ => t.size - (intOf i).toNat)
      case atStart => exact ⟨Below.refl _ _, 0, by omega, rfl, .inr (World.ownsRow_nil _ _ _ _), fun j c hj => by omega⟩
      case round =>
        obtain ⟨hbw, k, hk, rfl, ho, hh⟩ := hrel
        have hszw := hbw.size
        have HB := hide hbw
        by_cases hlt : k < t.size
        · have hlt' : (k : Int) < (t.size : Int) := by omega
          obtain ⟨x, hx⟩ := at_some (s := t) (k := k) hlt
          have ik := fun w => index_str (kd := .i64) (t := 9) Try.underlying9 (s := t) (j := k) hx w
          have C2 := fun w => Try.strings_IndexByte ⟨#[48, 49, 50, 51, 52, 53, 54, 55, 56, 57, 97, 98, 99, 100, 101, 102]⟩ (x.toNat : Int) w
          have ex : ((x.toNat : Int)).toNat.toUInt8 = x := by simp
          have ei := index_hex x
          rw [ex, show (⟨#[48, 49, 50, 51, 52, 53, 54, 55, 56, 57, 97, 98, 99, 100, 101, 102]⟩ : ByteArray).data.toList = digL from rfl, ei] at C2
          rw [HT.out] at hx
          have HX := hide hx
          have hxle := unhex_le x
          clear ei ex hx hbw
          by_cases h16 : unhexN x < 16
          · rw [if_pos h16] at C2
            have HN := hide (show (r.take (k + 1)).map unB = (r.take k).map unB ++ [unB x] by rw [take_next HX.out]; simp)
            have HM := hide (show ∀ j c, j < k + 1 → r[j]? = some c → unhexN c < 16 from fun j c hj hc => by
              rcases Nat.lt_or_ge j k with h | h
              · exact hh.out j c h hc
              · have : j = k := by omega
                subst this
                rw [HX.out] at hc
                cases hc
                exact h16)
            have hn0 : ¬ (unhexN x : Int) < 0 := by omega
            have w8 := wrap8 (k := (unhexN x : Int)) (by omega) (by omega)
            have HY := hide (unB_nat x)
            have HLn := hide (show ((r.take k).map unB).length ≤ 100 by simp; omega)
            generalize (r.take k).map unB = L at ho HN HLn
            generalize unB x = y at HN HY
            have HYC := hide (show ∀ (w : World), (w.alloc (.cells #[.int .u8 (unhexN x : Int)] 5)).cell? ⟨w.heap.size, 0, none⟩ = some (.int .u8 (y.toNat : Int)) from fun w => by rw [cell_new1, HY.out])
            generalize unhexN x = m at C2 h16 hn0 w8 HYC hxle
            go_wp2_with (first | (go_at_call 24; go_must (with_reducible refine (C2 _).mono ?_; (rintro e w2 ⟨rfl, hw2⟩); subst hw2)) | (at_builtin; go_must (refine append_txt rfl (.tmp 32) (.tmp 35) rfl wz.heap.size u6 L rfl (ho.alloc _) _ y rfl (HYC.out _) (by have := HLn.out; omega) (by simp; omega) ?_; intro v2 w3 ho3 hb3)))
            have hb4 : Below wz.heap.size wz w3 := (HB.out.alloc (by omega) _).trans hb3
            go_roundw
            case rel => exact ⟨hb4, k + 1, by omega, by go_num, by rw [HN.out]; exact ho3, HM⟩
            case measure => simp [intOf]; omega
          · rw [if_neg h16] at C2
            obtain ⟨e1, e2⟩ := read_no (l := s.data.toList) (by
              rintro ⟨_, _, h3⟩
              refine h16 (h3 x ?_)
              rw [HR.out]
              exact List.mem_of_getElem? HX.out)
            have HE1 := hide e1
            have HE2 := hide e2
            clear e1 e2
            go_wp2_with (go_at_call 24; go_must (with_reducible refine (C2 _).mono ?_; (rintro e w2 ⟨rfl, hw2⟩); subst hw2))
            exact bodyPost_ret (v := .tuple #[.string ⟨#[]⟩, .bool false]) (by simp [results, Try.results8, go_sem]) rfl ⟨by rw [HE1.out, HE2.out]; rfl, HB.out⟩
        · have hlt' : ¬ (k : Int) < (t.size : Int) := by omega
          obtain ⟨e1, e2⟩ := read_yes (l := s.data.toList) ⟨hp, by rw [HR.out]; simp; omega, fun c hc => by
            rw [HR.out] at hc
            obtain ⟨j, hj⟩ := List.getElem?_of_mem hc
            simp only [List.drop_one, List.tail_cons] at hj
            exact hh.out j c (by
              rcases Nat.lt_or_ge j r.length with q | q
              · omega
              · rw [List.getElem?_eq_none q] at hj; cases hj) hj⟩
          have HE1 := hide e1
          have HE2 := hide (show readL s.data.toList = (r.take k).map unB by
            rw [e2, HR.out, List.take_of_length_le (by omega)]; rfl)
          clear e1 e2
          generalize (r.take k).map unB = L at ho HE2
          obtain ⟨a, cap, rfl, hrr⟩ := ho.reads
          have kk := conv_str (t := 22) Try.underlying22 ho
          generalize L.length = m at kk
          clear hrr ho hbw hh
          go_wp2_with fail
          exact bodyPost_ret (v := .tuple #[.string (bs L), .bool true]) (by simp [results, Try.results8, go_sem]) rfl ⟨by rw [HE1.out, HE2.out], HB.out⟩
    · obtain ⟨e1, e2⟩ := read_no (l := s.data.toList) (by rw [hr]; simp; omega)
      rw [e1, e2]
      generalize bs r = t at C htz HT
      have h12' : (12 : Int) < (t.size : Int) := by omega
      clear hr hsz e1 e2
      go_enter Try.func8, Try.ntmps8
      go_wp2_with (go_at_call 23; go_must (with_reducible refine (C _).mono ?_; (rintro e wz ⟨rfl, hwz⟩); subst hwz))
      exact bodyPost_ret (v := .tuple #[.string ⟨#[]⟩, .bool false]) (by simp [results, Try.results8, go_sem]) rfl ⟨rfl, Below.refl _ _⟩
  · obtain ⟨e1, e2⟩ := read_no (l := s.data.toList) (fun h => hp h.1)
    rw [e1, e2]
    have e3 : Lib.hasPrefix s.data.toList (⟨#[114]⟩ : ByteArray).data.toList = false := by
      cases hq : s.data.toList with
      | nil => rfl
      | cons a r =>
        rw [hq] at hp
        simp at hp
        simp [Lib.hasPrefix, List.isPrefixOf]
        exact fun h => hp h.symm
    rw [e3] at C
    generalize (⟨(Lib.trimPrefix s.data.toList (⟨#[114]⟩ : ByteArray).data.toList).toArray⟩ : ByteArray) = t at C
    clear e1 e2 e3 hsz
    go_enter Try.func8, Try.ntmps8
    go_wp2_with (go_at_call 23; go_must (with_reducible refine (C _).mono ?_; (rintro e wz ⟨rfl, hwz⟩); subst hwz))
    exact bodyPost_ret (v := .tuple #[.string ⟨#[]⟩, .bool false]) (by simp [results, Try.results8, go_sem]) rfl ⟨rfl, Below.refl _ _⟩
end Go.Proofs.Ytbnefomabbepbaa
