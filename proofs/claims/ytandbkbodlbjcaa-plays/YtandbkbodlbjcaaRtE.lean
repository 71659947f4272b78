/- The document's own table: Wake. -/
import Derived.Test.YtandbkbodlbjcaaRtD
namespace Go.Proofs.Ytandbkbodlbjcaa
open Go.RowKit Go.ChangeShapes Go.WideShapes Go.ChangeAt Go.Deep Go.Maps Go.Sort

theorem ownB {w : World} {B B' T T' z z' n n' : Nat} {v v' : Value} {xs xs' : List Value} (h : w.ownsRow B T z v n xs) (h' : w.ownsRow B' T' z' v' n' xs') (hT : T ≠ T') : ∀ b, v.ownBlock = some b → v'.ownBlock ≠ some b := by
  intro b hb hb'
  rcases h.2 with ⟨rfl, h2⟩ | ⟨g, cap, cur, rfl, _, h2, _⟩
  · simp [Value.ownBlock] at hb
  rcases h'.2 with ⟨rfl, h3⟩ | ⟨g', cap', cur', rfl, _, h3, _⟩
  · simp [Value.ownBlock] at hb'
  simp [Value.ownBlock] at hb hb'
  subst hb hb'
  rw [h2] at h3
  simp at h3
  exact hT h3.2

theorem app_ownM {w : World} {ops : Array Oper} {rest : List Oper} {o : Oper} {act : Act} {Q : Exit → Act → World → Prop} (hgd : o.guard = none) (s x : Operand)
    (ho : o.op = .call { callee := .builtin .append, args := #[s, x], argTypes := #[27, 27] }) (v : Value) (n : Nat) (xs : List ByteArray) (hs : act.eval s = v) (hown : w.ownsRow 0 31 1 v n (nV xs)) (hn : n ≤ 1000000)
    (a : Option Addr) (m c : Nat) (ys : List ByteArray) (hx : act.eval x = .slice a m c) (hl : ys.length = m) (hm : m ≤ 1000000) (hz : ys = [] → a = none ∧ c = 0) (hnil : a = none → m = 0) (hr : Reads w a (nV ys))
    (h : ∀ v' w', w'.ownsRow 0 31 1 v' (n + m) (nV (xs ++ ys)) → w.grownBy w' v.ownBlock → (∀ b, v'.ownBlock = some b → v.ownBlock = some b ∨ b = w.heap.size) → wpList Try.prog ops Q rest (act.put o.dst v') w') : wpList Try.prog ops Q (o :: rest) act w := by
  obtain ⟨i0, hi, hz0, hz1, hz2⟩ := info_parts Try.info31
  by_cases hy : ys = []
  · obtain ⟨rfl, rfl⟩ := hz hy
    subst hy
    simp at hl
    subst hl
    refine wpList_append_own_none hgd s x 27 ho 0 31 i0 1 Try.underlying27 hi v n (nV xs) hs hown hx ?_
    exact h v w (by simpa using hown) ⟨rfl, rfl, rfl, Nat.le_refl _, fun _ _ _ => rfl⟩ (fun b hb => .inl hb)
  · have hm0 : 0 < m := by
      rw [← hl]
      exact List.length_pos_iff.2 hy
    cases a with
    | none => have := hnil rfl; omega
    | some ad =>
    have hbk : ∀ j u, (nV ys)[j]? = some u → w.cell? (ad.add j) = some u := by
      rcases hr with e | ⟨b, o, e, hr⟩
      · have : ys = [] := by simpa [nV] using e
        exact absurd this hy
      · simp only [Option.some.injEq] at e
        subst e
        intro j u hu
        rw [add_none]; exact hr j u hu
    refine wpList_append_lies w hgd s x 27 ho 0 31 i0 (.string ⟨#[]⟩) 1 16 Try.underlying27 hi hz0 hz1 hz2 rfl (by decide) v n (nV xs) hs hown ad m c (nV ys) hx (by rw [nV_length]; omega) hbk (nV_one _) hm0 (by unfold maxLen; omega) (by omega) (Nat.zero_le _) w.heap.size rfl ?_
    intro g c' w' ho' hg' hat _
    refine h _ w' (by have e : nV xs ++ nV ys = nV (xs ++ ys) := by simp [nV]
                      rw [← e]; exact ho') hg' (fun b hb => ?_)
    simp [Value.ownBlock] at hb
    subst hb
    exact hat

/-- Those who go, those who stay. -/
def woke (p : Pk) (L : List ByteArray) : List ByteArray := sortR (nms (p.filter fun q => inB L q.2))
def stay (p : Pk) (L : List ByteArray) : Pk := p.filter fun q => !inB L q.2
theorem woke_next (p : Pk) (L : List ByteArray) {k : Nat} {q : ByteArray × ByteArray} (hk : p[k]? = some q) : woke (p.take (k + 1)) L = if inB L q.2 = true then putB (woke (p.take k) L) q.1 else woke (p.take k) L := by
  unfold woke sortR nms
  rw [List.take_add_one, hk]
  by_cases h : inB L q.2 = true
  · simp [h]
  · simp [h]
theorem stay_next (p : Pk) (L : List ByteArray) {k : Nat} {q : ByteArray × ByteArray} (hk : p[k]? = some q) : stay (p.take (k + 1)) L = if inB L q.2 = true then stay (p.take k) L else stay (p.take k) L ++ [q] := by
  unfold stay
  rw [List.take_add_one, hk]
  by_cases h : inB L q.2 = true
  · simp [h]
  · simp [h]
theorem woke_sub (p : Pk) (L : List ByteArray) (x : ByteArray) (h : x ∈ woke p L) : x ∈ nms p := by
  unfold woke at h
  rw [sort_mem] at h
  unfold nms at h ⊢
  obtain ⟨q, h1, h2⟩ := List.mem_map.1 h
  exact List.mem_map.2 ⟨q, (List.mem_filter.1 h1).1, h2⟩
theorem woke_len (p : Pk) (L : List ByteArray) : (woke p L).length ≤ p.length := by
  refine Nat.le_trans (sort_len _) ?_
  simp only [nms, List.length_map]
  exact List.length_filter_le _ _
theorem stay_len (p : Pk) (L : List ByteArray) : (stay p L).length ≤ p.length := List.length_filter_le _ _
theorem woke_fresh {p : Pk} (hnd : (nms p).Nodup) (L : List ByteArray) {k : Nat} {q : ByteArray × ByteArray} (hk : p[k]? = some q) : q.1 ∉ woke (p.take k) L := fun h => nms_fresh hnd hk (by rw [sort_mem]; exact woke_sub _ _ _ h)
theorem putB_ne (L : List ByteArray) (x : ByteArray) : x ∉ L → putB L x ≠ [] := by
  intro hx h
  unfold putB at h
  split at h
  · rename_i e
    exact hx (List.mem_of_getElem? e)
  · simp at h

/-- Wake's answer. -/
def RWake (κ : Cl) (w : World) (cb : Nat) (U : Rt) (L : List ByteArray) (e : Ending) (w' : World) : Prop :=
  ∃ a c κ', e = .returned (.slice a (woke U.prk L).length c) ∧ w'.ownsRow w.heap.size 31 1 (.slice a (woke U.prk L).length c) (woke U.prk L).length (nV (woke U.prk L)) ∧ (∀ b, blk a = some b → κ' b = none) ∧ RtM κ' w' cb { U with rdy := U.rdy ++ woke U.prk L, prk := stay U.prk L } ∧ Stp κ κ' w w'

/-- The loop's state. -/
structure WkI (B : Nat) (w wr : World) (R : List ByteArray) (P : Pk) (a5 : Option Addr) (c5 : Nat) (v6 : Value) : Prop where
  r : wr.ownsRow B 31 1 (.slice a5 R.length c5) R.length (nV R)
  z : R = [] → a5 = none ∧ c5 = 0
  p : wr.ownsRow B 73 2 v6 P.length (pV P)
  b : Below B w wr

set_option maxRecDepth 100000 in
set_option maxHeartbeats 4000000 in
theorem rwake_any {κ : Cl} {w : World} {cb : Nat} {U : Rt} (h : RtM κ w cb U) (L : List ByteArray) (ad : Option Addr) (cap : Nat) (hr : Reads w ad (nV L)) (hL : L.length ≤ 1000) (h1 : U.rdy.length ≤ 1000) (h3 : U.prk.length ≤ 1000) (hnd : (nms U.prk).Nodup) : Calls Try.prog 21 #[.pointer (some ⟨cb, 0, none⟩), .slice ad L.length cap] w (RWake κ w cb U L) := by
  obtain ⟨vr, vg, vp, h⟩ := h
  obtain ⟨a3, k3, rfl⟩ := own_P h.p
  obtain ⟨a1, k1, rfl⟩ := own_P h.r
  have HT := hide h
  obtain ⟨c3, _⟩ := h.box.at (o := 3) rfl
  have HP := hide h.p
  have HND := hide hnd
  have HC := hide c3
  have HR := hide hr
  have H1 := hide h1
  unfold RWake
  obtain ⟨p, hp⟩ : ∃ p, p = U.prk := ⟨_, rfl⟩
  rw [← hp] at HP HND HC h3 ⊢
  have HPE := hide hp
  obtain ⟨B, hB⟩ : ∃ B, B = w.heap.size := ⟨_, rfl⟩
  have HBE := hide hB
  clear h hnd c3 hr h1 hp hB
  go_enter Try.func21, Try.ntmps21
  go_wp2
  go_loopw [5, 6, 7] (fun v5 v6 i wr => ∃ (k : Nat) (a5 : Option Addr) (c5 : Nat), k ≤ p.length ∧ i = .int .i64 (k : Nat) ∧ v5 = .slice a5 (woke (p.take k) L).length c5 ∧ Hid (WkI B w wr (woke (p.take k) L) (stay (p.take k) L) a5 c5 v6)) (fun _ _ i _ => p.length - (intOf i).toNat)
  case atStart => exact ⟨0, none, 0, by omega, rfl, rfl, hide ⟨World.ownsRow_nil _ _ _ _, fun _ => ⟨rfl, rfl⟩, World.ownsRow_nil _ _ _ _, by rw [HBE.out]; exact Below.refl _ _⟩⟩
  case round =>
    obtain ⟨k, a5, c5, hk, rfl, rfl, HI⟩ := hrel
    have c3 := keep_cell HC.out (by rw [← HBE.out]; exact HI.out.b)
    by_cases hlt : k < p.length
    · have hlt' : (k : Int) < (p.length : Int) := by omega
      obtain ⟨q, hq⟩ : ∃ q, p[k]? = some q := ⟨p[k], List.getElem?_eq_getElem hlt⟩
      have hpr : wr.ownsRow 0 73 2 (.slice a3 p.length k3) p.length (pV p) := ownK HP.out (fun b hb => HI.out.b.block b (by have := (HP.out.lt b hb).2; have := HBE.out; omega))
      obtain ⟨b, rfl, c1, c2⟩ := own_pair hpr hq
      have hfr := woke_fresh HND.out L hq
      obtain ⟨_, _, e, q1, q2, hr⟩ := own_formN HI.out.r
      cases e
      have hl9 : (woke (p.take k) L).length ≤ 1000 := Nat.le_trans (woke_len _ _) (by simp; omega)
      have hl8 : (stay (p.take k) L).length ≤ 1000 := Nat.le_trans (stay_len _ _) (by simp; omega)
      have C42 := hide (put_new _ q.1 a5 c5 wr hr q1 q2 hl9 hfr)
      have C39 := hide (rhas_any L q.2 ad cap wr (HR.out.below (by rw [← HBE.out]; exact HI.out.b)) (by omega))
      have HW := hide (woke_next p L hq)
      have HS := hide (stay_next p L hq)
      have HF := hide hfr
      clear hpr hq hfr q1 q2 hr
      generalize woke (p.take k) L = M at *
      generalize stay (p.take k) L = Z at *
      obtain ⟨x, on⟩ := q
      dsimp only at *
      cases hi : inB L on with
      | true =>
        rw [hi] at C39
        have HW2 := hide (HW.out.trans (if_pos hi))
        have HS2 := hide (HS.out.trans (if_pos hi))
        go_wp2_with (first
          | (go_at_call 39; go_must ((with_reducible refine C39.out.mono ?_); rintro e w4 ⟨rfl, rfl⟩))
          | (go_at_call 42; go_must ((with_reducible refine C42.out.mono ?_); rintro e w4 ⟨v4, rfl, ho4, hb4⟩; obtain ⟨a9, k9, rfl⟩ := own_P ho4; have HO4 := hide ho4; have HB4 := hide hb4; clear ho4 hb4)))
        go_roundw
        case rel =>
          have hs := HI.out.b.size
          have hsB := HBE.out
          refine ⟨k + 1, a9, k9, by omega, by go_num, by rw [HW2.out], ?_⟩
          rw [HW2.out, HS2.out]
          exact hide ⟨own_base HO4.out (by omega), fun h => absurd h (putB_ne _ _ HF.out), ownK HI.out.p (fun b hb => HB4.out.block b (HI.out.p.lt b hb).2), HI.out.b.trans (HB4.out.mono (by omega))⟩
        case measure => simp [intOf]; omega
      | false =>
        rw [hi] at C39
        have HW2 := hide (HW.out.trans (if_neg (by rw [hi]; simp)))
        have HS2 := hide (HS.out.trans (if_neg (by rw [hi]; simp)))
        have hsz := HI.out.b.size
        have HHP := hide HI.out.p
        obtain ⟨a6, k6, rfl⟩ := own_P HI.out.p
        go_wp2_with (first
          | (go_at_call 39; go_must ((with_reducible refine C39.out.mono ?_); rintro e w4 ⟨rfl, rfl⟩))
          | (at_builtin; go_must (refine app_pair rfl (.tmp 37) (.tmp 45) rfl B (.slice a6 Z.length k6) Z.length Z rfl (HHP.out.alloc _) (by omega) (by have := HBE.out; simp; omega) _ (x, on) rfl (reads_newN _ [.string x, .string on] 73 rfl) ?_; intro v5 w5 ho5 hg5 hat5; obtain ⟨a9, k9, rfl⟩ := own_P ho5; have HO5 := hide ho5; have HG5 := hide hg5; clear ho5 hg5 hat5)))
        go_roundw
        case rel =>
          have hsB := HBE.out
          refine ⟨k + 1, a5, c5, by omega, by go_num, by rw [HW2.out], ?_⟩
          rw [HW2.out, HS2.out]
          refine hide ⟨ownK (HI.out.r.alloc _) (fun b hb => HG5.out.block b ((HI.out.r.alloc _).lt b hb).2 (fun e => ownB HI.out.r HHP.out (by decide) b hb e.symm)), HI.out.z, by simpa using HO5.out, (HI.out.b.alloc (by omega) _).grown HG5.out (by simp; omega) (fun b hb => (HHP.out.lt b hb).1)⟩
        case measure => simp [intOf]; omega
    · obtain rfl : k = p.length := by omega
      have hlt' : ¬ (p.length : Int) < (p.length : Int) := by omega
      rw [show p.take p.length = p from List.take_of_length_le (Nat.le_refl _)] at HI
      obtain ⟨a6, k6, rfl⟩ := own_P HI.out.p
      have hsB := HBE.out
      have hsz := HI.out.b.size
      have hcb := HT.out.box.1
      obtain ⟨c4, f4⟩ := (HT.out.box.below (by rw [← HBE.out]; exact HI.out.b)).at (o := 3) rfl
      rw [← HPE.out] at c4
      have HS := hide (HT.out.setP (v' := .slice a6 (stay p L).length k6) (stay p L) (own_base HI.out.p (Nat.zero_le _)) (Kp.ofB (by rw [← HBE.out]; exact HI.out.b)) (fun b hb => .inr (by have := (HI.out.p.lt b hb).1; omega)))
      have HO := hide (show (wr.setCell ⟨cb, 3, none⟩ (.slice a6 (stay p L).length k6)).ownsRow B 31 1 (.slice a5 (woke p L).length c5) (woke p L).length (nV (woke p L)) from ownK HI.out.r (fun b hb => Below.heap_setCell _ _ _ _ (show b ≠ cb by have := (HI.out.r.lt b hb).1; omega)))
      have HAP := hide (show ∀ b, (Value.slice a5 (woke p L).length c5).ownBlock = some b → (Value.slice a6 (stay p L).length k6).ownBlock ≠ some b from ownB HI.out.r HI.out.p (by decide))
      have HZ := hide HI.out.z
      have hwl : (woke p L).length ≤ 1000 := Nat.le_trans (woke_len _ _) h3
      obtain ⟨M, hM⟩ : ∃ M, M = woke p L := ⟨_, rfl⟩
      obtain ⟨Z, hZ⟩ : ∃ Z, Z = stay p L := ⟨_, rfl⟩
      rw [← hM] at HO HAP HZ hwl
      rw [← hZ] at HS HO HAP
      have hs3 : (wr.setCell ⟨cb, 3, none⟩ (.slice a6 Z.length k6)).heap.size = wr.heap.size := by simp [World.setCell]
      have HS3 := hide hs3
      clear c3 HI hs3
      go_upto_region 10 with fail
      rw [show p.take p.length = p from List.take_of_length_le (Nat.le_refl _), ← hM, ← hZ]
      have HM := hide hM
      have HZE := hide hZ
      clear hM hZ
      generalize wr.setCell ⟨cb, 3, none⟩ (.slice a6 Z.length k6) = W at HS HO HS3 ⊢
      obtain ⟨_, _, e, q1, q2, hr⟩ := own_formN HO.out
      cases e
      obtain ⟨c1, f1⟩ := HS.out.1.box.at (o := 1) rfl
      go_wp2_with (at_builtin; go_must (refine app_ownM rfl (.tmp 55) (.tmp 56) rfl (.slice a1 U.rdy.length k1) U.rdy.length U.rdy rfl HS.out.1.r (by have := H1.out; omega) a5 M.length c5 M rfl rfl (by omega) HZ.out (fun h => (q2 h).1) hr ?_; intro v7 w7 ho7 hg7 hat7; obtain ⟨a9, k9, rfl⟩ := own_P ho7; obtain ⟨c7, f7⟩ := (HS.out.1.box.keep hg7.size (hg7.block cb HS.out.1.box.1 (fun e => by have := HS.out.1.rc cb e.symm; rw [HS.out.1.hc] at this; cases this))).at (o := 1) rfl; have HO7 := hide ho7; have HG7 := hide hg7; have HA7 := hide hat7; clear ho7 hg7 hat7))
      go_ret
      have hfin := HS.out.1.setR (v' := .slice a9 (U.rdy.length + M.length) k9) (U.rdy ++ M) (by simpa using HO7.out) (Kp.ofG HG7.out (fun k e => e)) (fun b hb => by
        rcases HA7.out b hb with e | e
        · exact .inl e
        · right; omega)
      have hrb : ∀ b, (Value.slice a1 U.rdy.length k1).ownBlock = some b → b < B := fun b hb => by rw [HBE.out]; exact (HT.out.r.lt b hb).2
      rw [← HM.out, ← HZE.out]
      refine ⟨a5, c5, rfl, ?_, _, fun b hb => ?_, ⟨_, _, _, hfin.1⟩, HS.out.2.trans hfin.2⟩
      · rw [← HBE.out]
        refine ownK (w := W) HO.out (fun b hb => ?_)
        have h2 := HO.out.lt b hb
        rw [Below.heap_setCell _ _ _ _ (show b ≠ cb by omega)]
        exact HG7.out.block b h2.2 (fun e => by have := hrb b e.symm; omega)
      · have hb' : (Value.slice a5 M.length c5).ownBlock = some b := by rw [blk_own]; exact hb
        have h2 := HO.out.lt b hb'
        rw [hue_not (fun e => ?_), hue_not (HAP.out b hb')]
        · cases hc : κ b with
          | none => rfl
          | some t => have := HT.out.lt b (by rw [hc]; simp); omega
        · rcases HA7.out b e with e1 | e1
          · have := hrb b e1; omega
          · omega
end Go.Proofs.Ytandbkbodlbjcaa
