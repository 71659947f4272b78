/- Read: the document's own. -/
import Derived.Test.YtbnefomabbepbaaRead
namespace Go.Proofs.Ytbnefomabbepbaa
open Go.RowKit Go.ChangeShapes Go.WideShapes Go.ChangeAt Go.Deep

set_option maxRecDepth 100000 in
set_option maxHeartbeats 16000000 in
theorem refRead_any (s : ByteArray) (hs : s.size ≤ 1000000) (w : World) : Calls Try.prog 9 #[.string s] w fun e w' => e = .returned (.tuple #[.string (bs (readL s.data.toList)), .bool (readOk s.data.toList)]) ∧ Below w.heap.size w w' := by
  have hsz := Lib.size_eq s
  have hem := empty_str s
  cases hq : s.data.toList with
  | nil =>
    rw [hq] at hem
    obtain ⟨e1, e2⟩ := read_no (l := []) (by simp)
    rw [e1, e2]
    clear e1 e2 hq
    go_enter Try.func9, Try.ntmps9
    go_wp2_with fail
    exact bodyPost_ret (v := .tuple #[.string ⟨#[]⟩, .bool false]) (by simp [results, Try.results9, go_sem]) rfl ⟨rfl, Below.refl _ _⟩
  | cons c0 r =>
    rw [hq] at hem
    have hem' : s.toList.isEmpty = false := hem
    have i0 : ∀ w, (Instr.index 9 (.string s) (.int .i64 0)).run Try.prog w = .ok (.int .u8 c0.toNat) w := fun w => index_str (kd := .i64) (t := 9) Try.underlying9 (s := s) (j := 0) (c := c0) (by rw [hq]; rfl) w
    have hl : s.size = r.length + 1 := by rw [hsz, hq]; rfl
    by_cases hp : c0 = 114
    · subst hp
      have hne : ((((114 : UInt8).toNat : Nat) : Int) != 114) = false := by decide
      by_cases h13 : s.size ≤ 13
      · have h13' : ¬ (13 : Int) < (s.size : Int) := by omega
        have HR := hide hq
        have HL := hide hl
        clear hq hem hsz hl
        go_enter Try.func9, Try.ntmps9
        go_wp2_with fail
        clear i0 hne hem'
        go_loopw [5, 4] (fun i b wr => Below w.heap.size w wr ∧ ∃ k : Nat, 1 ≤ k ∧ k ≤ s.size ∧ i = .int .i64 (k : Nat) ∧ TxtRow wr w.heap.size b ((r.take (k - 1)).map unB) ∧ Hid (∀ j c, j < k - 1 → r[j]? = some c → unhexN c < 16)) (fun i _ _ => s.size - (intOf i).toNat)
        case atStart => exact ⟨Below.refl _ _, 1, by omega, by have := HL.out; omega, rfl, .inr (World.ownsRow_nil _ _ _ _), fun j c hj => by omega⟩
        case round =>
          obtain ⟨hbw, k, hk1, hk, rfl, ho, hh⟩ := hrel
          have hszw := hbw.size
          have HB := hide hbw
          by_cases hlt : k < s.size
          · have hlt' : (k : Int) < (s.size : Int) := by omega
            obtain ⟨x, hx⟩ := at_some (s := s) (k := k) hlt
            have ik := fun w => index_str (kd := .i64) (t := 9) Try.underlying9 (s := s) (j := k) hx w
            have HX := hide (show r[k - 1]? = some x by rw [HR.out, show k = (k - 1) + 1 by omega] at hx; simpa using hx)
            clear hx hbw
            go_wp2_with fail
            go_loopw [6] (fun i wq => Below wr.heap.size wr wq ∧ ∃ m : Nat, m ≤ 16 ∧ i = .int .i64 (m : Nat) ∧ Hid (∀ j, j < m → digL[j]? ≠ some x)) (fun i _ => 16 - (intOf i).toNat)
            case atStart => exact ⟨Below.refl _ _, 0, by omega, rfl, fun j hj => by omega⟩
            case round =>
              obtain ⟨hbq, m, hm, rfl, hd⟩ := hrel
              have HBQ := hide hbq
              have hszq := hbq.size
              have hoq := ho.below hbq
              clear hbq
              by_cases hm16 : m < 16
              · have hm16' : (m : Int) < 16 := by omega
                obtain ⟨y, hy⟩ : ∃ y, digL[m]? = some y := ⟨digL[m]'(by show m < 16; exact hm16), List.getElem?_eq_getElem _⟩
                have im := fun w => index_str (kd := .i64) (t := 9) Try.underlying9 (s := ⟨#[48, 49, 50, 51, 52, 53, 54, 55, 56, 57, 97, 98, 99, 100, 101, 102]⟩) (j := m) (c := y) hy w
                by_cases hyx : y = x
                · have hun := unhex_at hy hd.out hyx
                  subst hyx
                  have hne : ((y.toNat : Int) != (y.toNat : Int)) = false := by simp
                  have hne16 : ((m : Int) == 16) = false := by rw [beq_eq_false_iff_ne]; omega
                  have HN := hide (show (r.take (k + 1 - 1)).map unB = (r.take (k - 1)).map unB ++ [unB y] by rw [show k + 1 - 1 = (k - 1) + 1 by omega, take_next HX.out]; simp)
                  have HM := hide (show ∀ j c, j < k + 1 - 1 → r[j]? = some c → unhexN c < 16 from fun j c hj hc => by
                    rcases Nat.lt_or_ge j (k - 1) with h | h
                    · exact hh.out j c h hc
                    · have : j = k - 1 := by omega
                      subst this
                      rw [HX.out] at hc
                      cases hc
                      omega)
                  have w8 := wrap8 (k := (m : Int)) (by omega) (by omega)
                  have HY := hide (show (unB y).toNat = m by rw [unB_nat, hun])
                  have HLn := hide (show ((r.take (k - 1)).map unB).length ≤ 100 by simp; omega)
                  generalize (r.take (k - 1)).map unB = L at hoq HN HLn
                  generalize unB y = z at HN HY
                  have HYC := hide (show ∀ (w : World), (w.alloc (.cells #[.int .u8 (m : Int)] 5)).cell? ⟨w.heap.size, 0, none⟩ = some (.int .u8 (z.toNat : Int)) from fun w => by rw [cell_new1, HY.out])
                  clear hy hun hd ho hh
                  go_wp2_with fail
                  go_quiet (fail)
                  have hod := hoq.below (below_drewN (Below.refl _ _) nq)
                  go_wp2_with (at_builtin; go_must (refine append_txt rfl (.tmp 39) (.tmp 42) rfl w.heap.size u4 L rfl (hod.alloc _) _ z rfl (HYC.out _) (by have := HLn.out; omega) (by simp; omega) ?_; intro v2 w3 ho3 hb3))
                  go_roundw
                  case rel => exact ⟨(((chain HB.out HBQ.out).trans (below_drewN (Below.refl _ _) nq)).alloc (by simp; omega) _).trans hb3, k + 1, by omega, by omega, by go_num, by rw [HN.out]; exact ho3, HM⟩
                  case measure => simp [intOf]; omega
                · have hne : ((y.toNat : Int) != (x.toNat : Int)) = true := by
                    rw [bne_iff_ne]; intro h; exact hyx (UInt8.toNat_inj.1 (by omega))
                  have HD := hide (show ∀ j, j < m + 1 → digL[j]? ≠ some x from fun j hj => by
                    rcases Nat.lt_or_ge j m with h | h
                    · exact hd.out j h
                    · have : j = m := by omega
                      subst this
                      rw [hy]
                      intro h
                      exact hyx (Option.some.inj h))
                  clear hy hd hyx ho hh hoq
                  go_wp2_with fail
                  go_quiet (fail)
                  go_wp2_with fail
                  go_roundw
                  case rel => exact ⟨below_drewN HBQ.out _, m + 1, by omega, by go_num, HD⟩
                  case measure => simp [intOf]; omega
              · obtain rfl : m = 16 := by omega
                obtain ⟨e1, e2⟩ := read_no (l := s.data.toList) (by
                  rintro ⟨_, _, h3⟩
                  have h4 := h3 x (by rw [HR.out]; exact List.mem_of_getElem? HX.out)
                  rw [unhex_none (fun j hj => hd.out j (by omega))] at h4
                  omega)
                have HE1 := hide (show readOk (114 :: r) = false by rw [← HR.out]; exact e1)
                have HE2 := hide (show readL (114 :: r) = [] by rw [← HR.out]; exact e2)
                clear e1 e2 hd ho hh hoq
                go_wp2_with fail
                go_quiet (fail)
                go_wp2_with fail
                exact bodyPost_ret (v := .tuple #[.string ⟨#[]⟩, .bool false]) (by simp [results, Try.results9, go_sem]) rfl ⟨by rw [HE1.out, HE2.out]; rfl, below_drewN (chain HB.out HBQ.out) _⟩
          · have hlt' : ¬ (k : Int) < (s.size : Int) := by omega
            obtain ⟨e1, e2⟩ := read_yes (l := 114 :: r) ⟨rfl, by have := HL.out; simp; omega, fun c hc => by
              obtain ⟨j, hj⟩ := List.getElem?_of_mem hc
              simp only [List.drop_one, List.tail_cons] at hj
              exact hh.out j c (by
                rcases Nat.lt_or_ge j r.length with q | q
                · have := HL.out; omega
                · rw [List.getElem?_eq_none q] at hj; cases hj) hj⟩
            have HE1 := hide e1
            have HE2 := hide (show readL (114 :: r) = (r.take (k - 1)).map unB by
              rw [e2, List.take_of_length_le (by have := HL.out; omega)]; rfl)
            clear e1 e2
            generalize (r.take (k - 1)).map unB = L at ho HE2
            obtain ⟨a, cap, rfl, hrr⟩ := ho.reads
            have kk := conv_str (t := 22) Try.underlying22 ho
            generalize L.length = m at kk
            clear hrr ho hbw hh
            go_wp2_with fail
            exact bodyPost_ret (v := .tuple #[.string (bs L), .bool true]) (by simp [results, Try.results9, go_sem]) rfl ⟨by rw [HE1.out, HE2.out], HB.out⟩
      · have h13' : (13 : Int) < (s.size : Int) := by omega
        obtain ⟨e1, e2⟩ := read_no (l := 114 :: r) (by simp; omega)
        rw [e1, e2]
        clear e1 e2 hq hem hsz
        go_enter Try.func9, Try.ntmps9
        go_wp2_with fail
        exact bodyPost_ret (v := .tuple #[.string ⟨#[]⟩, .bool false]) (by simp [results, Try.results9, go_sem]) rfl ⟨rfl, Below.refl _ _⟩
    · have hne : ((c0.toNat : Int) != 114) = true := by
        rw [bne_iff_ne]; intro h; exact hp (UInt8.toNat_inj.1 (by show c0.toNat = 114; omega))
      obtain ⟨e1, e2⟩ := read_no (l := c0 :: r) (by simp [hp])
      rw [e1, e2]
      clear e1 e2 hq hem hsz
      go_enter Try.func9, Try.ntmps9
      go_wp2_with fail
      exact bodyPost_ret (v := .tuple #[.string ⟨#[]⟩, .bool false]) (by simp [results, Try.results9, go_sem]) rfl ⟨rfl, Below.refl _ _⟩
end Go.Proofs.Ytbnefomabbepbaa
