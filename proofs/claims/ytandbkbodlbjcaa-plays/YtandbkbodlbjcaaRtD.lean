/- The document's own table: Parked, Add. -/
import Derived.Test.YtandbkbodlbjcaaRtB
namespace Go.Proofs.Ytandbkbodlbjcaa
open Go.RowKit Go.ChangeShapes Go.WideShapes Go.ChangeAt Go.Deep Go.Maps Go.Sort

theorem own_pair {w : World} {B n c : Nat} {a : Option Addr} {p : Pk} {k : Nat} {q : ByteArray × ByteArray} (h : w.ownsRow B 73 2 (.slice a n c) n (pV p)) (hk : p[k]? = some q) : ∃ b, a = some ⟨b, 0, none⟩ ∧ w.cell? ⟨b, k * 2, none⟩ = some (.string q.1) ∧ w.cell? ⟨b, k * 2 + 1, none⟩ = some (.string q.2) := by
  obtain ⟨e1, e2⟩ := pV_at p hk
  have hl := h.1
  rw [pV_len] at hl
  have hkl : k < p.length := (List.getElem?_eq_some_iff.1 hk).1
  rcases h.2 with ⟨e, h0⟩ | ⟨g, cap, cur, e, h1⟩
  · omega
  · simp only [Value.slice.injEq] at e
    obtain ⟨rfl, _, rfl⟩ := e
    have t1 := h.cells (g := g) rfl _ _ e1
    have t2 := h.cells (g := g) rfl _ _ e2
    rw [add_none] at t1 t2
    exact ⟨g, rfl, by simpa using t1, by simpa using t2⟩

def nms (p : Pk) : List ByteArray := p.map Prod.fst
theorem nms_next (p : Pk) {k : Nat} {q : ByteArray × ByteArray} (hk : p[k]? = some q) : sortR (nms (p.take (k + 1))) = putB (sortR (nms (p.take k))) q.1 := by
  unfold sortR nms
  rw [List.take_add_one, hk]
  simp
theorem sort_mem (L : List ByteArray) (x : ByteArray) : x ∈ sortR L ↔ x ∈ L := by
  have := (fold_rise L [] List.Pairwise.nil).2 x
  simpa [sortR] using this
theorem sort_rise (L : List ByteArray) : (sortR L).Pairwise ltB := (fold_rise L [] List.Pairwise.nil).1
theorem sort_len (L : List ByteArray) : (sortR L).length ≤ L.length := by
  have := fold_len L []
  simpa [sortR] using this
theorem nms_fresh {p : Pk} (hnd : (nms p).Nodup) {k : Nat} {q : ByteArray × ByteArray} (hk : p[k]? = some q) : q.1 ∉ sortR (nms (p.take k)) := by
  rw [sort_mem]
  intro hm
  unfold nms at hm hnd
  rw [List.map_take] at hm
  obtain ⟨j, hj⟩ := List.getElem?_of_mem hm
  have hjk : j < k := by
    rcases Nat.lt_or_ge j k with h | h
    · exact h
    · rw [List.getElem?_eq_none (by simp; omega)] at hj; cases hj
  rw [List.getElem?_take_of_lt hjk] at hj
  have hk2 : (p.map Prod.fst)[k]? = some q.1 := by simp [hk]
  have := (List.getElem?_inj (List.getElem?_eq_some_iff.1 hj).1 hnd).1 (hj.trans hk2.symm)
  omega

set_option maxRecDepth 100000 in
set_option maxHeartbeats 2000000 in
theorem rparked_any {κ : Cl} {w : World} {cb : Nat} {U : Rt} (h : RtM κ w cb U) (h3 : U.prk.length ≤ 1000) (hnd : (nms U.prk).Nodup) : Calls Try.prog 30 #[.pointer (some ⟨cb, 0, none⟩)] w fun e w' => ∃ v, e = .returned v ∧ w'.ownsRow w.heap.size 31 1 v (sortR (nms U.prk)).length (nV (sortR (nms U.prk))) ∧ Below w.heap.size w w' := by
  obtain ⟨vr, vg, vp, h⟩ := h
  obtain ⟨a3, k3, rfl⟩ := own_P h.p
  obtain ⟨c3, _⟩ := h.box.at (o := 3) rfl
  have HP := hide h.p
  have HND := hide hnd
  have HC := hide c3
  generalize U.prk = p at *
  generalize hB : w.heap.size = B at *
  clear h hnd c3
  go_enter Try.func30, Try.ntmps30
  go_wp2
  go_loopw [3, 4] (fun v i wr => ∃ (k : Nat) (a2 : Option Addr) (c2 : Nat), k ≤ p.length ∧ i = .int .i64 (k : Nat) ∧ v = .slice a2 (sortR (nms (p.take k))).length c2 ∧ Hid (wr.ownsRow B 31 1 (.slice a2 (sortR (nms (p.take k))).length c2) (sortR (nms (p.take k))).length (nV (sortR (nms (p.take k)))) ∧ Below B w wr)) (fun _ i _ => p.length - (intOf i).toNat)
  case atStart => exact ⟨0, none, 0, by omega, rfl, rfl, hide ⟨World.ownsRow_nil _ _ _ _, Below.refl _ _⟩⟩
  case round =>
    obtain ⟨k, a2, c2, hk, rfl, rfl, HI⟩ := hrel
    have c3 := keep_cell HC.out (by rw [hB]; exact HI.out.2)
    by_cases hlt : k < p.length
    · have hlt' : (k : Int) < (p.length : Int) := by omega
      obtain ⟨q, hq⟩ : ∃ q, p[k]? = some q := ⟨p[k], List.getElem?_eq_getElem hlt⟩
      have hpr : wr.ownsRow 0 73 2 (.slice a3 p.length k3) p.length (pV p) := ownK HP.out (fun b hb => HI.out.2.block b (by have := (HP.out.lt b hb).2; omega))
      obtain ⟨b, rfl, c1, _⟩ := own_pair hpr hq
      have hfr := nms_fresh HND.out hq
      obtain ⟨_, _, e, q1, q2, hr⟩ := own_formN HI.out.1
      cases e
      have hl9 : (sortR (nms (p.take k))).length ≤ 1000 := Nat.le_trans (sort_len _) (by simp [nms]; omega)
      have C42 := hide (put_new _ q.1 a2 c2 wr hr q1 q2 hl9 hfr)
      have HNX := hide (nms_next p hq)
      clear hpr hq hfr q1 q2 hr
      generalize sortR (nms (p.take k)) = M at *
      go_wp2_with (go_at_call 42; go_must ((with_reducible refine C42.out.mono ?_); rintro e w4 ⟨v4, rfl, ho4, hb4⟩; obtain ⟨a9, k9, rfl⟩ := own_P ho4; have HO4 := hide ho4; have HB4 := hide hb4; clear ho4 hb4))
      go_roundw
      case rel =>
        have hs := HI.out.2.size
        exact ⟨k + 1, a9, k9, by omega, by go_num, by rw [HNX.out], by rw [HNX.out]; exact hide ⟨own_base HO4.out (by omega), HI.out.2.trans (HB4.out.mono (by omega))⟩⟩
      case measure => simp [intOf]; omega
    · obtain rfl : k = p.length := by omega
      have hlt' : ¬ (p.length : Int) < (p.length : Int) := by omega
      have HE := hide (show p.take p.length = p from List.take_of_length_le (Nat.le_refl _))
      go_wp2
      go_ret
      rw [HE.out] at HI
      exact ⟨_, rfl, HI.out.1, HI.out.2⟩
/-- Add, as the document's table does it. -/
def raddN (U : Rt) (x : ByteArray) : Bool := validL x.data.toList && !inB U.rdy x && !inB U.goi x && !inB (sortR (nms U.prk)) x
def raddM (U : Rt) : Int := if U.mx < 1 then 1 else U.mx
def raddT (U : Rt) (x : ByteArray) : Int × Rt := if raddN U x = false then (1, U) else if raddM U ≤ (U.all : Int) then (31, U) else (0, { U with rdy := U.rdy ++ [x] })
def RAdd (κ : Cl) (w : World) (cb : Nat) (U : Rt) (x : ByteArray) (e : Ending) (w' : World) : Prop := e = .returned (.int .i64 (raddT U x).1) ∧ ∃ κ', RtM κ' w' cb (raddT U x).2 ∧ Stp κ κ' w w'
set_option maxRecDepth 100000 in
set_option maxHeartbeats 4000000 in
theorem radd_any {κ : Cl} {w : World} {cb : Nat} {U : Rt} (h : RtM κ w cb U) (x : ByteArray) (hx : x.size ≤ 1000000) (h1 : U.rdy.length ≤ 1000) (h2 : U.goi.length ≤ 1000) (h3 : U.prk.length ≤ 1000) (hnd : (nms U.prk).Nodup) : Calls Try.prog 12 #[.pointer (some ⟨cb, 0, none⟩), .string x] w (RAdd κ w cb U x) := by
  have C30 := hide (rparked_any h h3 hnd)
  obtain ⟨vr, vg, vp, h⟩ := h
  obtain ⟨a1, k1, rfl, _, _, hr1⟩ := own_formN h.r
  obtain ⟨a2, k2, rfl, _, _, hr2⟩ := own_formN h.g
  have HT := hide h
  obtain ⟨c0, _⟩ := h.box.at (o := 0) rfl
  obtain ⟨c1, f1⟩ := h.box.at (o := 1) rfl
  obtain ⟨c2, _⟩ := h.box.at (o := 2) rfl
  have C38 := hide (fun w => refValid_any x (by unfold maxLen; omega) w)
  have CR := hide (rhas_any U.rdy x a1 k1 w hr1 (by omega))
  have CG := hide (rhas_any U.goi x a2 k2 w hr2 (by omega))
  have hl3 : (sortR (nms U.prk)).length ≤ 1000 := Nat.le_trans (sort_len _) (by simp [nms]; omega)
  have CL := hide (fun w' (hb : Below w.heap.size w w') => rlen_any (⟨_, _, _, h.below hb⟩ : RtM κ w' cb U) h1 h2 h3)
  have H1 := hide h1
  clear h hr1 hr2 hnd h2 h3
  have hN : raddN U x = (validL x.data.toList && !inB U.rdy x && !inB U.goi x && !inB (sortR (nms U.prk)) x) := rfl
  have hM : raddM U = if U.mx < 1 then 1 else U.mx := rfl
  have hT : raddT U x = if raddN U x = false then (1, U) else if raddM U ≤ (U.all : Int) then (31, U) else (0, { U with rdy := U.rdy ++ [x] }) := rfl
  unfold RAdd
  generalize sortR (nms U.prk) = R at *
  obtain ⟨n1, hn1⟩ : ∃ n, n = U.rdy.length := ⟨_, rfl⟩
  obtain ⟨n2, hn2⟩ : ∃ n, n = U.goi.length := ⟨_, rfl⟩
  obtain ⟨n3, hn3⟩ : ∃ n, n = U.all := ⟨_, rfl⟩
  rw [← hn1] at c1 CR
  rw [← hn2] at c2 CG
  rw [← hn3] at CL hT
  have HN1 := hide hn1
  clear hn1 hn2 hn3
  obtain ⟨mx, hmx⟩ : ∃ m, m = U.mx := ⟨_, rfl⟩
  rw [← hmx] at c0 hM
  have HMX := hide hmx
  clear hmx h1
  cases hv : validL x.data.toList with
  | false =>
    rw [hv] at C38
    have HP := hide (show raddT U x = (1, U) by rw [hT, if_pos]; rw [hN]; simp [hv])
    rw [HP.out]
    clear hT hN hM
    go_enter Try.func12, Try.ntmps12
    go_wp2_with (go_at_call 38; go_must ((with_reducible refine (C38.out _).mono ?_); rintro e w1 ⟨rfl, rfl⟩))
    go_ret
    exact ⟨rfl, κ, ⟨_, _, _, HT.out⟩, Stp.refl _ _⟩
  | true =>
  rw [hv] at C38
  cases hr : inB U.rdy x with
  | true =>
    rw [hr] at CR
    have HP := hide (show raddT U x = (1, U) by rw [hT, if_pos]; rw [hN]; simp [hr])
    rw [HP.out]
    clear hT hN hM
    go_enter Try.func12, Try.ntmps12
    go_wp2_with (first | (go_at_call 38; go_must ((with_reducible refine (C38.out _).mono ?_); rintro e w1 ⟨rfl, rfl⟩)) | (go_at_call 39; (with_reducible refine CR.out.mono ?_); go_must (rintro e w1 ⟨rfl, rfl⟩)))
    go_ret
    exact ⟨rfl, κ, ⟨_, _, _, HT.out⟩, Stp.refl _ _⟩
  | false =>
  rw [hr] at CR
  cases hg : inB U.goi x with
  | true =>
    rw [hg] at CG
    have HP := hide (show raddT U x = (1, U) by rw [hT, if_pos]; rw [hN]; simp [hg])
    rw [HP.out]
    clear hT hN hM
    go_enter Try.func12, Try.ntmps12
    go_wp2_with (first | (go_at_call 38; go_must ((with_reducible refine (C38.out _).mono ?_); rintro e w1 ⟨rfl, rfl⟩)) | (go_at_call 39; (with_reducible refine CR.out.mono ?_); go_must (rintro e w1 ⟨rfl, rfl⟩)) | (go_at_call 39; (with_reducible refine CG.out.mono ?_); go_must (rintro e w1 ⟨rfl, rfl⟩)))
    go_ret
    exact ⟨rfl, κ, ⟨_, _, _, HT.out⟩, Stp.refl _ _⟩
  | false =>
  rw [hg] at CG
  cases hp : inB R x with
  | true =>
    have HP := hide (show raddT U x = (1, U) by rw [hT, if_pos]; rw [hN]; simp [hp])
    rw [HP.out]
    clear hT hN hM
    go_enter Try.func12, Try.ntmps12
    go_wp2_with (first | (go_at_call 38; go_must ((with_reducible refine (C38.out _).mono ?_); rintro e w1 ⟨rfl, rfl⟩)) | (go_at_call 39; (with_reducible refine CR.out.mono ?_); go_must (rintro e w1 ⟨rfl, rfl⟩)) | (go_at_call 39; (with_reducible refine CG.out.mono ?_); go_must (rintro e w1 ⟨rfl, rfl⟩)) | (go_at_call 30; go_must ((with_reducible refine C30.out.mono ?_); rintro e w1 ⟨v1, rfl, ho1, hb1⟩; obtain ⟨a5, k5, rfl, _, _, hr5⟩ := own_formN ho1; have c00 := keep_cell c0 hb1; have c11 := keep_cell c1 hb1; have CP := hide (rhas_any R x a5 k5 w1 hr5 (by omega)); rw [hp] at CP; have HB := hide hb1; clear hb1 ho1 hr5)) | (go_at_call 39; (with_reducible refine CP.out.mono ?_); go_must (rintro e w2 ⟨rfl, rfl⟩)))
    go_ret
    exact ⟨rfl, κ, ⟨_, _, _, HT.out.below HB.out⟩, Stp.ofB HB.out⟩
  | false =>
  have hNt : raddN U x = true := by rw [hN, hv, hr, hg, hp]; rfl
  by_cases hlo : mx < 1
  · have hMe : raddM U = 1 := by rw [hM]; simp [hlo]
    by_cases hf : (1 : Int) ≤ (n3 : Int)
    · have HP := hide (show raddT U x = (31, U) by rw [hT, if_neg (by rw [hNt]; simp), hMe, if_pos hf])
      rw [HP.out]
      clear hT hN hM hNt hMe
      go_enter Try.func12, Try.ntmps12
      go_wp2_with (first | (go_at_call 38; go_must ((with_reducible refine (C38.out _).mono ?_); rintro e w1 ⟨rfl, rfl⟩)) | (go_at_call 39; (with_reducible refine CR.out.mono ?_); go_must (rintro e w1 ⟨rfl, rfl⟩)) | (go_at_call 39; (with_reducible refine CG.out.mono ?_); go_must (rintro e w1 ⟨rfl, rfl⟩)) | (go_at_call 30; go_must ((with_reducible refine C30.out.mono ?_); rintro e w1 ⟨v1, rfl, ho1, hb1⟩; obtain ⟨a5, k5, rfl, _, _, hr5⟩ := own_formN ho1; have c00 := keep_cell c0 hb1; have c11 := keep_cell c1 hb1; have CP := hide (rhas_any R x a5 k5 w1 hr5 (by omega)); rw [hp] at CP; have HB := hide hb1; clear hb1 ho1 hr5)) | (go_at_call 39; (with_reducible refine CP.out.mono ?_); go_must (rintro e w2 ⟨rfl, rfl⟩)) | (go_at_call 32; go_must ((with_reducible refine (CL.out _ HB.out).mono ?_); rintro e w3 ⟨rfl, q, rfl⟩)))
      go_ret
      exact ⟨rfl, κ, ⟨_, _, _, HT.out.below (belowN HB.out _)⟩, Stp.ofB (belowN HB.out _)⟩
    · have HP := hide (show raddT U x = (0, { U with rdy := U.rdy ++ [x] }) by rw [hT, if_neg (by rw [hNt]; simp), hMe, if_neg hf])
      have hfl : ¬ (n3 : Int) ≥ (1 : Int) := hf
      rw [HP.out]
      clear hT hN hM hNt hMe
      go_enter Try.func12, Try.ntmps12
      go_wp2_with (first | (go_at_call 38; go_must ((with_reducible refine (C38.out _).mono ?_); rintro e w1 ⟨rfl, rfl⟩)) | (go_at_call 39; (with_reducible refine CR.out.mono ?_); go_must (rintro e w1 ⟨rfl, rfl⟩)) | (go_at_call 39; (with_reducible refine CG.out.mono ?_); go_must (rintro e w1 ⟨rfl, rfl⟩)) | (go_at_call 30; go_must ((with_reducible refine C30.out.mono ?_); rintro e w1 ⟨v1, rfl, ho1, hb1⟩; obtain ⟨a5, k5, rfl, _, _, hr5⟩ := own_formN ho1; have c00 := keep_cell c0 hb1; have c11 := keep_cell c1 hb1; have CP := hide (rhas_any R x a5 k5 w1 hr5 (by omega)); rw [hp] at CP; have HB := hide hb1; clear hb1 ho1 hr5)) | (go_at_call 39; (with_reducible refine CP.out.mono ?_); go_must (rintro e w2 ⟨rfl, rfl⟩)) | (go_at_call 32; go_must ((with_reducible refine (CL.out _ HB.out).mono ?_); rintro e w3 ⟨rfl, q, rfl⟩)) | (have HBA := hide (fun q => (belowN HB.out q).alloc HB.out.size (.cells #[.string x] 31)); at_builtin; go_must (refine app_own rfl (.tmp 47) (.tmp 49) rfl (.slice a1 n1 k1) n1 U.rdy rfl (by have t := (HT.out.below HB.out).r; rw [← HN1.out] at t; exact (show (w2.drewN q).ownsRow 0 31 1 _ n1 _ from t).alloc _) (by have := H1.out; have := HN1.out; omega) _ x rfl (reads_newN _ [.string x] 31 rfl) ?_; intro v5 w5 ho5 hg5 hat5; obtain ⟨a9, k9, rfl⟩ := own_P ho5; obtain ⟨c6, f6⟩ := ((HT.out.box.below (HBA.out q)).keep hg5.size (hg5.block cb (Nat.lt_of_lt_of_le HT.out.box.1 (HBA.out q).size) (fun e => by have := HT.out.rc cb (by rw [← HN1.out]; exact e.symm); rw [HT.out.hc] at this; cases this))).at (o := 1) rfl; have HO5 := hide ho5; have HG5 := hide hg5; have HA5 := hide hat5; clear ho5 hg5 hat5)))
      go_ret
      have ho6 := HO5.out
      have := HT.out.setR (v' := .slice a9 (n1 + 1) k9) (U.rdy ++ [x]) (by simpa [HN1.out] using ho6) (Kp.trans (Kp.ofB (HBA.out _)) (Kp.ofG HG5.out (fun k e => by rw [← HN1.out]; exact e))) (fun b hb => by
        rcases HA5.out b hb with e | e
        · exact .inl (by rw [← HN1.out]; exact e)
        · right; have := (belowN HB.out q).size; rw [e]; simp at this ⊢; omega)
      exact ⟨rfl, _, ⟨_, _, _, this.1⟩, this.2⟩
  · have hMe : raddM U = mx := by rw [hM]; simp [hlo]
    by_cases hf : (mx : Int) ≤ (n3 : Int)
    · have HP := hide (show raddT U x = (31, U) by rw [hT, if_neg (by rw [hNt]; simp), hMe, if_pos hf])
      rw [HP.out]
      clear hT hN hM hNt hMe
      go_enter Try.func12, Try.ntmps12
      go_wp2_with (first | (go_at_call 38; go_must ((with_reducible refine (C38.out _).mono ?_); rintro e w1 ⟨rfl, rfl⟩)) | (go_at_call 39; (with_reducible refine CR.out.mono ?_); go_must (rintro e w1 ⟨rfl, rfl⟩)) | (go_at_call 39; (with_reducible refine CG.out.mono ?_); go_must (rintro e w1 ⟨rfl, rfl⟩)) | (go_at_call 30; go_must ((with_reducible refine C30.out.mono ?_); rintro e w1 ⟨v1, rfl, ho1, hb1⟩; obtain ⟨a5, k5, rfl, _, _, hr5⟩ := own_formN ho1; have c00 := keep_cell c0 hb1; have c11 := keep_cell c1 hb1; have CP := hide (rhas_any R x a5 k5 w1 hr5 (by omega)); rw [hp] at CP; have HB := hide hb1; clear hb1 ho1 hr5)) | (go_at_call 39; (with_reducible refine CP.out.mono ?_); go_must (rintro e w2 ⟨rfl, rfl⟩)) | (go_at_call 32; go_must ((with_reducible refine (CL.out _ HB.out).mono ?_); rintro e w3 ⟨rfl, q, rfl⟩)))
      go_ret
      exact ⟨rfl, κ, ⟨_, _, _, HT.out.below (belowN HB.out _)⟩, Stp.ofB (belowN HB.out _)⟩
    · have HP := hide (show raddT U x = (0, { U with rdy := U.rdy ++ [x] }) by rw [hT, if_neg (by rw [hNt]; simp), hMe, if_neg hf])
      have hfl : ¬ (n3 : Int) ≥ (mx : Int) := hf
      rw [HP.out]
      clear hT hN hM hNt hMe
      go_enter Try.func12, Try.ntmps12
      go_wp2_with (first | (go_at_call 38; go_must ((with_reducible refine (C38.out _).mono ?_); rintro e w1 ⟨rfl, rfl⟩)) | (go_at_call 39; (with_reducible refine CR.out.mono ?_); go_must (rintro e w1 ⟨rfl, rfl⟩)) | (go_at_call 39; (with_reducible refine CG.out.mono ?_); go_must (rintro e w1 ⟨rfl, rfl⟩)) | (go_at_call 30; go_must ((with_reducible refine C30.out.mono ?_); rintro e w1 ⟨v1, rfl, ho1, hb1⟩; obtain ⟨a5, k5, rfl, _, _, hr5⟩ := own_formN ho1; have c00 := keep_cell c0 hb1; have c11 := keep_cell c1 hb1; have CP := hide (rhas_any R x a5 k5 w1 hr5 (by omega)); rw [hp] at CP; have HB := hide hb1; clear hb1 ho1 hr5)) | (go_at_call 39; (with_reducible refine CP.out.mono ?_); go_must (rintro e w2 ⟨rfl, rfl⟩)) | (go_at_call 32; go_must ((with_reducible refine (CL.out _ HB.out).mono ?_); rintro e w3 ⟨rfl, q, rfl⟩)) | (have HBA := hide (fun q => (belowN HB.out q).alloc HB.out.size (.cells #[.string x] 31)); at_builtin; go_must (refine app_own rfl (.tmp 47) (.tmp 49) rfl (.slice a1 n1 k1) n1 U.rdy rfl (by have t := (HT.out.below HB.out).r; rw [← HN1.out] at t; exact (show (w2.drewN q).ownsRow 0 31 1 _ n1 _ from t).alloc _) (by have := H1.out; have := HN1.out; omega) _ x rfl (reads_newN _ [.string x] 31 rfl) ?_; intro v5 w5 ho5 hg5 hat5; obtain ⟨a9, k9, rfl⟩ := own_P ho5; obtain ⟨c6, f6⟩ := ((HT.out.box.below (HBA.out q)).keep hg5.size (hg5.block cb (Nat.lt_of_lt_of_le HT.out.box.1 (HBA.out q).size) (fun e => by have := HT.out.rc cb (by rw [← HN1.out]; exact e.symm); rw [HT.out.hc] at this; cases this))).at (o := 1) rfl; have HO5 := hide ho5; have HG5 := hide hg5; have HA5 := hide hat5; clear ho5 hg5 hat5)))
      go_ret
      have ho6 := HO5.out
      have := HT.out.setR (v' := .slice a9 (n1 + 1) k9) (U.rdy ++ [x]) (by simpa [HN1.out] using ho6) (Kp.trans (Kp.ofB (HBA.out _)) (Kp.ofG HG5.out (fun k e => by rw [← HN1.out]; exact e))) (fun b hb => by
        rcases HA5.out b hb with e | e
        · exact .inl (by rw [← HN1.out]; exact e)
        · right; have := (belowN HB.out q).size; rw [e]; simp at this ⊢; omega)
      exact ⟨rfl, _, ⟨_, _, _, this.1⟩, this.2⟩
end Go.Proofs.Ytandbkbodlbjcaa
