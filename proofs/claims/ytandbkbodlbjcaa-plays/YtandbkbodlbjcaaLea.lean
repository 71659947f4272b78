/- A table's parked tasks: leave. -/
import Derived.Test.YtandbkbodlbjcaaPrk
namespace Go.Proofs.Ytandbkbodlbjcaa
open Go.RowKit Go.ChangeShapes Go.WideShapes Go.ChangeAt Go.Deep Go.Maps Go.Sort

abbrev Pk := List (ByteArray × ByteArray)
/-- Those that are not parked on x. -/
def rest1 (p : Pk) (x : ByteArray) : Pk := p.filter fun q => decide (q.2 ≠ x)
def leaveS (s : List ByteArray × Pk) (x : ByteArray) : List ByteArray × Pk := (s.1 ++ kids s.2 x, rest1 s.2 x)
/-- leave, plain: who leaves, and who stays. -/
def leaveL (p : Pk) (L : List ByteArray) : List ByteArray × Pk := L.foldl leaveS ([], p)
theorem leaveL_next (p : Pk) (L : List ByteArray) {k : Nat} {x : ByteArray} (hx : L[k]? = some x) : leaveL p (L.take (k + 1)) = leaveS (leaveL p (L.take k)) x := by
  unfold leaveL
  rw [List.take_add_one, hx, List.foldl_append]
  rfl
theorem leave_len (p : Pk) (x : ByteArray) : (kids p x).length + (rest1 p x).length = p.length := by
  induction p with
  | nil => rfl
  | cons a r ih =>
    by_cases h : a.2 = x
    · have e1 : kids (a :: r) x = a.1 :: kids r x := by simp [kids, h]
      have e2 : rest1 (a :: r) x = rest1 r x := by simp [rest1, h]
      rw [e1, e2]; simp; omega
    · have e1 : kids (a :: r) x = kids r x := by simp [kids, h]
      have e2 : rest1 (a :: r) x = a :: rest1 r x := by simp [rest1, h]
      rw [e1, e2]; simp; omega
theorem leaveL_len (L : List ByteArray) : ∀ s : List ByteArray × Pk, (L.foldl leaveS s).1.length + (L.foldl leaveS s).2.length = s.1.length + s.2.length := by
  induction L with
  | nil => intro s; rfl
  | cons x r ih =>
    intro s
    rw [List.foldl_cons, ih]
    have := leave_len s.2 x
    simp [leaveS]; omega
theorem kids_rest_same (p : Pk) (x : ByteArray) : kids (rest1 p x) x = [] := by
  unfold kids rest1
  rw [List.filter_filter]
  simp
theorem kids_rest_other (p : Pk) (x y : ByteArray) (h : y ≠ x) : kids (rest1 p x) y = kids p y := by
  unfold kids rest1
  rw [List.filter_filter]
  congr 1
  apply List.filter_congr
  intro q _
  by_cases e : q.2 = y
  · simp [e, h]
  · simp [e]

theorem look_none55 (x : ByteArray) (hx : x.size ≤ 1000000) (w : World) : (Instr.lookup 55 (.map none) (.string x) false).run Try.prog w = .ok (.slice none 0 0) w := by
  rw [Maps.look_nil false law31 Try.underlying55 (zero27 w) (key31 hx)]
  rfl
theorem drop_none55 (x : ByteArray) (hx : x.size ≤ 1000000) (ty : TypeId) (w : World) : (Builtin.delete_ #[55, 31] ty #[.map none, .string x]).run Try.prog w = .ok (.tuple #[]) w :=
  Maps.drop_nil law31 Try.underlying55 (key31 hx) ty

/-- Some leave. -/
theorem bag_del {κ : Cl} {w w' : World} {cb m n : Nat} {T : Tb} {D : DataW Value} (h : TabM κ w cb T) (hc : w.cell? ⟨cb, 2, none⟩ = some (.map (some m))) (x : ByteArray) (ho : w.ownsMap Try.prog 31 heldR m (Maps.size D) D) (hg : w.grownBy w' (some m)) (ho' : w'.ownsMap Try.prog 31 heldR m n (D.del (.string x.data.toList))) :
    TabM κ w' cb { T with prk := rest1 T.prk x } ∧ Stp κ κ w w' ∧ w'.cell? ⟨cb, 2, none⟩ = some (.map (some m)) := by
  obtain ⟨h1, h2, vr, vg, vp, va, h3, h4, h5, h6, h7⟩ := h
  obtain rfl : vp = .map (some m) := by
    have := (h3.at (o := 2) rfl).1
    rw [this] at hc
    exact Option.some.inj hc
  rcases h6.2 with ⟨e, _⟩ | ⟨b, D0, e, hb, ho0, hz, hons⟩
  · cases e
  cases e
  have hD : D0 = D := by
    obtain ⟨es, cl, e1, F, _, rfl⟩ := ho0
    obtain ⟨es', cl', e1', F', _, rfl⟩ := ho
    rw [e1] at e1'
    cases e1'
    rfl
  subst hD
  have q : ∀ k t, k < w.heap.size → κ k = some t → t ≠ .pk → w'.heap[k]? = w.heap[k]? ∧ κ k = κ k := fun k t hk e n1 => by
    refine ⟨hg.block k hk (fun e1 => ?_), rfl⟩
    have : k = m := by simpa using e1
    subst this; rw [hb] at e; cases e; exact n1 rfl
  have hB := h3.keep hg.size (q cb .box h3.1 h2 (by simp)).1
  refine ⟨⟨fun k hk => Nat.lt_of_lt_of_le (h1 k hk) hg.size, h2, vr, vg, .map (some m), va, hB, h4.keep hg.size (fun k a b => q k _ a b (by simp)), h5.keep (fun k a b => q k _ a b (by simp)), ⟨fun y hy => h6.1 y (List.mem_filter.1 hy).1, .inr ⟨m, _, rfl, hb, tight ho', ?_, fun on => ?_⟩⟩, h7.keep (fun k a b => q k _ a b (by simp))⟩, ⟨⟨hg.os, hg.tape, hg.output, hg.size, fun k hk hn => hg.block k hk (fun e => hn (by have : k = m := (by simpa using e); rw [this, hb]; simp))⟩, fun _ _ => rfl⟩, (hB.at (o := 2) rfl).1⟩
  · have := size_del (k := .string x.data.toList) (ho0.tidy law31)
    show Maps.size _ ≤ T.wt
    omega
  · by_cases e : on = x
    · subst e
      refine ⟨none, 0, 0, atKey_del_same _, ?_, fun k hk => by simp [blk] at hk⟩
      rw [kids_rest_same]; exact RN.nil _
    · obtain ⟨a2, n2, c2, r1, r2, r3⟩ := hons on
      refine ⟨a2, n2, c2, by rw [atKey_del_other (lit_ne e)]; exact r1, ?_, r3⟩
      rw [kids_rest_other _ _ _ e]
      exact r2.keep hg.size (fun k hk => (q k _ (r2.lt hk) (r3 k hk) (by simp)).1)

theorem Reads.keepS {κ κ' : Cl} {w w' : World} {a : Option Addr} {xs : List Value} (h : Reads w a xs) (hS : Stp κ κ' w w') (hκ : ∀ a0, a = some a0 → 0 < xs.length → κ a0.block = none) : Reads w' a xs := by
  rcases h with rfl | ⟨b, off, rfl, h⟩
  · exact .inl rfl
  · refine .inr ⟨b, off, rfl, fun j u hu => ?_⟩
    have hj := h j u hu
    have hp : 0 < xs.length := Nat.lt_of_le_of_lt (Nat.zero_le _) (List.getElem?_eq_some_iff.1 hu).1
    rw [World.cell?_of_block (w := w) (a := ⟨b, off + j, none⟩) (hS.kp.block b (cell_some_lt hj) (fun e => e (hκ _ rfl hp)))]
    exact hj

/-- A row of one's own is written. -/
theorem Stp.grown {κ κ' : Cl} {w w1 w2 : World} {row : Option Nat} (h : Stp κ κ' w w1) (hg : w1.grownBy w2 row) (hr : ∀ q, row = some q → w.heap.size ≤ q) : Stp κ κ' w w2 :=
  ⟨⟨hg.os.trans h.kp.os, hg.tape.trans h.kp.tape, hg.output.trans h.kp.output, Nat.le_trans h.kp.size hg.size, fun q hq hn => (hg.block q (Nat.lt_of_lt_of_le hq h.kp.size) (fun e => by have := hr q e.symm; omega)).trans (h.kp.block q hq hn)⟩, h.col⟩

theorem leaveL_nil (L : List ByteArray) : leaveL [] L = ([], []) := by
  unfold leaveL
  induction L with
  | nil => rfl
  | cons x r ih =>
    rw [List.foldl_cons]
    exact ih

/-- leave's answer. -/
def LeaveP (κ : Cl) (w : World) (cb : Nat) (T : Tb) (L : List ByteArray) (e : Ending) (w' : World) : Prop :=
  ∃ v, e = .returned v ∧ w'.ownsRow w.heap.size 31 1 v (leaveL T.prk L).1.length (nV (leaveL T.prk L).1) ∧ TabM κ w' cb { T with prk := (leaveL T.prk L).2 } ∧ Stp κ κ w w'

set_option maxRecDepth 100000 in
set_option maxHeartbeats 4000000 in
theorem leave_any {κ : Cl} {w : World} {cb : Nat} {T : Tb} (h : TabM κ w cb T) (L : List ByteArray) (ad : Option Addr) (cap : Nat) (hr : Reads w ad (nV L)) (hκ : ∀ a0, ad = some a0 → 0 < L.length → κ a0.block = none) (hL : L.length ≤ 1000) (hLz : ∀ x ∈ L, x.size ≤ 1000000) (hp : T.prk.length ≤ 1000) :
    Calls Try.prog 47 #[.pointer (some ⟨cb, 2, none⟩), .slice ad L.length cap] w (LeaveP κ w cb T L) := by
  have HK := hide hκ
  have HR := hide hr
  have HZ := hide hLz
  have HT := hide h
  have HP := hide hp
  have HLT := hide h.1
  rcases h.bag with ⟨c0, _, hpe⟩ | ⟨m, c0⟩
  · have HN := hide (leaveL_nil L)
    have HPE := hide hpe
    obtain ⟨i0, hi, hz0, hz1, hz2⟩ := info_parts Try.info31
    clear hκ hr hLz h hp hpe
    go_enter Try.func47, Try.ntmps47
    go_upto_region 2 with fail
    go_wp2
    go_loopw [5, 10] (fun v i wr => wr = w ∧ v = .slice none 0 0 ∧ ∃ (k : Nat), k ≤ L.length ∧ i = .int .i64 (k : Nat)) (fun _ i _ => L.length - (intOf i).toNat)
    case atStart => exact ⟨rfl, rfl, 0, by omega, rfl⟩
    case round =>
      obtain ⟨rfl, rfl, k, hk, rfl⟩ := hrel
      by_cases hlt : k < L.length
      · obtain ⟨x, hx⟩ : ∃ x, L[k]? = some x := ⟨L[k], List.getElem?_eq_getElem hlt⟩
        have hxz := HZ.out x (List.mem_of_getElem? hx)
        obtain ⟨b, off, rfl, hcx⟩ := reads_nV (k := k) (x := x) HR.out hx
        have cx := hcx.out k x hx
        have hlk := look_none55 x hxz
        have hdr := drop_none55 x hxz
        have hlI : (k : Int) < (L.length : Int) := by omega
        clear hx hcx
        go_wp2_with (at_builtin; refine wpList_append_own_none rfl (.tmp 14) (.tmp 20) 27 rfl wr.heap.size 31 i0 1 Try.underlying27 hi (.slice none 0 0) 0 [] rfl (World.ownsRow_nil _ _ _ _) rfl ?_)
        go_roundw
        case rel => exact ⟨by trivial, by trivial, k + 1, by omega, by go_num⟩
        case measure => simp [intOf]; omega
      · obtain rfl : k = L.length := by omega
        have hlI : ¬ (L.length : Int) < (L.length : Int) := by omega
        go_wp2
        go_ret
        refine ⟨_, rfl, ?_, ?_, Stp.refl _ _⟩
        · rw [HPE.out, HN.out]; exact World.ownsRow_nil _ _ _ _
        · rw [HPE.out, HN.out]
          have := HT.out
          rw [show ({ T with prk := [] } : Tb) = T by rw [← HPE.out]]
          exact this
  · clear hκ hr hLz h hp
    go_enter Try.func47, Try.ntmps47
    go_upto_region 2 with fail
    go_wp2
    go_loopw [5, 10] (fun v i wr => ∃ (k : Nat) (O : List ByteArray) (P : Pk) (a : Option Addr) (c : Nat), k ≤ L.length ∧ i = .int .i64 (k : Nat) ∧ v = .slice a O.length c ∧ Hid ((O, P) = leaveL T.prk (L.take k) ∧ wr.ownsRow w.heap.size 31 1 (.slice a O.length c) O.length (nV O) ∧ TabM κ wr cb { T with prk := P } ∧ Stp κ κ w wr ∧ wr.cell? ⟨cb, 2, none⟩ = some (.map (some m)))) (fun _ i _ => L.length - (intOf i).toNat)
    case atStart => exact ⟨0, [], T.prk, none, 0, by omega, rfl, rfl, hide ⟨rfl, World.ownsRow_nil _ _ _ _, HT.out, Stp.refl _ _, c0⟩⟩
    case round =>
      obtain ⟨k, O, P, a, c, hk, rfl, rfl, HI⟩ := hrel
      obtain ⟨e1, ho, hTr, hSr, hcr⟩ := HI.out
      have HE := hide e1
      by_cases hlt : k < L.length
      · obtain ⟨x, hx⟩ : ∃ x, L[k]? = some x := ⟨L[k], List.getElem?_eq_getElem hlt⟩
        have hxz := HZ.out x (List.mem_of_getElem? hx)
        have hRr : Reads wr ad (nV L) := HR.out.keepS hSr (fun a0 e h0 => HK.out a0 e (by rw [nV_length] at h0; exact h0))
        obtain ⟨b, off, rfl, hcx⟩ := reads_nV (k := k) (x := x) hRr hx
        have cx := hcx.out k x hx
        have hlen := leaveL_len (L.take k) ([], T.prk)
        have HE2 := hide (show (O ++ kids P x, rest1 P x) = leaveL T.prk (L.take (k + 1)) by rw [leaveL_next T.prk L hx, ← HE.out]; rfl)
        have hOP : O.length + P.length ≤ 1000 := by
          have e3 : leaveL T.prk (L.take k) = (L.take k).foldl leaveS ([], T.prk) := rfl
          rw [← e3, ← HE.out] at hlen
          simp at hlen
          have := HP.out
          omega
        have hkl := leave_len P x
        obtain ⟨D, a2, n2, c2, hWO⟩ := wait_open hTr hcr x
        have hn2 : (kids P x).length = n2 := hWO.rn.1
        have hlk := look_bag hWO.own hxz hWO.hat
        have HWO := hide hWO
        have hlI : (k : Int) < (L.length : Int) := by omega
        have HTr := hide hTr
        have HSr := hide hSr
        have HCR := hide hcr
        have HO := hide ho
        have hbk := hSr.kp.size
        clear hx hcx hRr hlen e1 hWO hTr hSr
        go_wp2_with (first
          | (at_builtin; go_must (refine append_names rfl (.tmp 14) (.tmp 20) rfl w.heap.size _ O.length O rfl ho a2 n2 c2 (kids P x) rfl (fun e => by subst e; exact HWO.out.rn.none_nil) hn2 HWO.out.rn.reads (by omega) (by omega) ?_; intro v3 w3 ho3 hg3; refine Hid.out ?_)))
        refine Lib.hid ?_
        have hnb : ∀ q, κ q ≠ none → (Value.slice a O.length c).ownBlock ≠ some q := fun q hq e => by
          have := (ho.lt q e).1
          have := HLT.out q hq
          omega
        have hT3 := HTr.out.keep hg3.size (fun q hq hc => hg3.block q hq (fun e => hnb q hc e.symm))
        have hS3 := HSr.out.grown hg3 (fun q e => (ho.lt q e).1)
        have hcb := cell_some_lt HCR.out
        have hcr3 : w3.cell? ⟨cb, 2, none⟩ = some (.map (some m)) := by
          rw [World.cell?_of_block (hg3.block cb hcb (fun e => hnb cb (by rw [HTr.out.2.1]; simp) e.symm))]
          exact HCR.out
        have hown3 : w3.ownsMap Try.prog 31 heldR m (Maps.size D) D := HWO.out.own.kept hg3 (fun e => hnb m (by rw [HWO.out.col]; simp) e.symm)
        obtain ⟨a5, c5, rfl, _, hpos⟩ := own_formS ho3
        have HT3 := hide hT3
        have HS3 := hide hS3
        have HCR3 := hide hcr3
        have HO3 := hide ho3
        have hk31 := key31 hxz
        have hl5 : O.length + n2 = (O ++ kids P x).length := by rw [List.length_append, hn2]
        have HL5 := hide hl5
        clear ho3 hg3 hT3 hS3 hnb hn2 hkl hOP hlk ho hpos hl5
        go_wp2_with (at_delete; go_must (refine wpList_delete_own _ rfl _ _ 55 31 rfl 27 law31 Try.underlying55 _ m _ D rfl hown3 _ _ rfl hk31 ?_; intro w4 hown4 hturn4; refine Hid.out ?_))
        refine Lib.hid ?_
        obtain ⟨hT4, hS4, hc4⟩ := bag_del HT3.out HCR3.out x hown3 hturn4.grown hown4
        have hO4 : w4.ownsRow w.heap.size 31 1 (.slice a5 (O.length + n2) c5) (O.length + n2) (nV (O ++ kids P x)) := HO3.out.kept hturn4.grown (.inr (fun e => by
          have h1 := HO3.out.lt m e
          have h2 := HLT.out m (by rw [HWO.out.col]; simp)
          omega))
        rw [HL5.out] at hO4 ⊢
        have HI4 := hide (show (O ++ kids P x, rest1 P x) = leaveL T.prk (L.take (k + 1)) ∧ _ ∧ _ ∧ _ ∧ _ from ⟨HE2.out, hO4, hT4, HS3.out.trans hS4, hc4⟩)
        clear hO4 hT4 hS4 hc4 hown4 hturn4 hown3 hk31 cx
        go_wp2_with fail
        go_roundw
        case rel => exact ⟨k + 1, O ++ kids P x, rest1 P x, a5, c5, by omega, by go_num, rfl, HI4⟩
        case measure => simp [intOf]; omega
      · obtain rfl : k = L.length := by omega
        have hlI : ¬ (L.length : Int) < (L.length : Int) := by omega
        have HTr := hide hTr
        have HSr := hide hSr
        have HO := hide ho
        clear hTr hSr hcr ho e1
        go_wp2
        go_ret
        have e2 := HE.out
        rw [List.take_of_length_le (Nat.le_refl _)] at e2
        refine ⟨_, rfl, ?_, ?_, HSr.out⟩
        · rw [← e2]; exact HO.out
        · rw [← e2]; exact HTr.out
end Go.Proofs.Ytandbkbodlbjcaa
