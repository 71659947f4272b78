/- TablePlays answers true. -/
import Derived.Test.YtandbkbodlbjcaaPlyM
import Derived.Deep.CutRange
import Derived.Deep.CutBlock
namespace Go.Proofs.Ytandbkbodlbjcaa
open Go.RowKit Go.ChangeShapes Go.WideShapes Go.ChangeAt Go.Deep Go.Maps Go.Sort
namespace tablePlays

theorem acts_at {w : World} {d : Option Addr} {l : List Ac} {k : Nat} (h : ActsM w d l) (hk : k < l.length) : ∃ b off y, d = some ⟨b, off, none⟩ ∧ okAc w y ∧ w.cell? ⟨b, off + k * 4, none⟩ = some (.int .i64 y.wy) ∧ w.cell? ⟨b, off + k * 4 + 1, none⟩ = some (.string y.id) ∧ w.cell? ⟨b, off + k * 4 + 2, none⟩ = some (.string y.on) ∧ w.cell? ⟨b, off + k * 4 + 3, none⟩ = some (.slice y.a y.n y.c) := by
  rcases h with h | ⟨b, off, e, h⟩
  · subst h; simp at hk
  · obtain ⟨h1, h2⟩ := h k l[k] (by simp [hk])
    exact ⟨b, off, _, e, h1, h2⟩

/-- The loop's state. -/
structure PQ (w W : World) (cT cU : Nat) (m : Int) (k : Nat) : Prop where
  ex : ∃ κ1 κ2 T U, PM w W cT cU κ1 κ2 T U ∧ PR m T U k

/-- The state behind an act. -/
def PX (w W : World) (cT cU ab : Nat) (xs : List Value) (m : Int) (k : Nat) : Prop := ∃ κ1 κ2 T U, PA w W cT cU ab xs κ1 κ2 T U ∧ PR m T U k

theorem PQ.start {w w1 w2 : World} {cT : Nat} {m : Int} (hb : Below w.heap.size w w1) (hT : TabM (paint (fun _ => none) w1.heap.size .box) w2 w1.heap.size (Tb.new m)) (hB : Below w1.heap.size w1 w2) (hc : cT = w1.heap.size) :
    PQ w (w2.alloc (.cells #[.int .i64 m, .slice none 0 0, .slice none 0 0, .slice none 0 0] 30)) cT w2.heap.size m 0 := by
  subst hc
  have hs1 := hb.size
  have hs2 := hB.size
  have hlt := hT.1
  refine ⟨paint (fun _ => none) w1.heap.size .box, paint (fun _ => none) w2.heap.size .box, Tb.new m, ⟨m, [], [], []⟩, ⟨(hb.trans (hB.mono hs1)).trans ((below_new w2 _).mono (by omega)), hT.below (below_new w2 _), ⟨.slice none 0 0, .slice none 0 0, .slice none 0 0, ?_⟩, fun k hk => ?_, fun k hk => ?_, fun k hk => ?_⟩, PR.new m⟩
  · refine ⟨fun k hk => ?_, paint_at _ _ _, BoxL.new w2 [.int .i64 m, .slice none 0 0, .slice none 0 0, .slice none 0 0] 30, World.ownsRow_nil _ _ _ _, (fun b hb => by cases hb), World.ownsRow_nil _ _ _ _, (fun b hb => by cases hb), World.ownsRow_nil _ _ _ _, (fun b hb => by cases hb)⟩
    by_cases e : k = w2.heap.size
    · subst e; simp
    · rw [paint_other e] at hk; exact absurd rfl hk
  · by_cases e : k = w1.heap.size
    · omega
    · rw [paint_other e] at hk; exact absurd rfl hk
  · by_cases e : k = w2.heap.size
    · omega
    · rw [paint_other e] at hk; exact absurd rfl hk
  · exact paint_other (by have := hlt k hk; omega)

theorem wake_w {κ : Cl} {w : World} {cb : Nat} {T : Tb} (h : TabM κ w cb T) (L : List ByteArray) (ad : Option Addr) (n cap : Nat) (hn : L.length = n) (hr : Reads w ad (nV L)) (hκ : ∀ a0, ad = some a0 → 0 < L.length → κ a0.block = none) (hL : L.length ≤ 1000) (hLz : ∀ x ∈ L, x.size ≤ 1000000) (hp : T.prk.length ≤ 1000) (hrd : T.rdy.length ≤ 10000) :
    Calls Try.prog 19 #[.pointer (some ⟨cb, 0, none⟩), .slice ad n cap] w fun e w' => ∃ a c κ', e = .returned (.slice a (woke T.prk L).length c) ∧ RN w' a (woke T.prk L).length c (woke T.prk L) ∧ (∀ b, blk a = some b → w.heap.size ≤ b ∧ κ' b = none) ∧ TabM κ' w' cb { T with prk := stay T.prk L, rdy := T.rdy ++ woke T.prk L } ∧ Stp κ κ' w w' := by
  subst hn
  refine (wake_any h L ad cap hr hκ hL hLz hp hrd).mono ?_
  rintro e w' ⟨a, c, R, κ', rfl, h1, h2, h3, h4, _, h6, h7⟩
  obtain rfl := woke_is h3 h4
  rw [leaveL_snd] at h6
  exact ⟨a, c, κ', rfl, h1, h2, h6, h7⟩
theorem reads_old {w : World} {a : Option Addr} {L : List ByteArray} (h : Reads w a (nV L)) : ∀ a0, a = some a0 → 0 < L.length → a0.block < w.heap.size := by
  intro a0 e h0
  rcases h with h | ⟨b, off, e1, h⟩
  · have : L = [] := by simpa [nV] using h
    subst this; simp at h0
  · rw [e] at e1
    simp only [Option.some.injEq] at e1
    subst e1
    exact cell_some_lt (h 0 (.string L[0]) (by simp [nV, h0]))

/-- x, Wake's answer, behind the document's Wake. -/
theorem wake_x {w V W W' : World} {cT cU ab : Nat} {xs : List Value} {κ1 κ1' κ2 κ2' : Cl} {T : Tb} {U : Rt} {a : Option Addr} {n c : Nat} {R : List ByteArray} (h0 : PA w V cT cU ab xs κ1 κ2 T U) (hRN : RN W a n c R) (hb : ∀ b, blk a = some b → V.heap.size ≤ b ∧ κ1' b = none) (hS : Stp κ2 κ2' W W') :
    RN W' a n c R ∧ ∀ b, blk a = some b → κ1' b = none ∧ κ2' b = none ∧ w.heap.size ≤ b ∧ b ≠ ab := by
  have hk : ∀ b, blk a = some b → κ2 b = none := fun b e => fresh1 h0.ref.lt (hb b e).1
  refine ⟨hRN.keep hS.kp.size (fun b e => hS.kp.block b (hRN.lt e) (fun q => q (hk b e))), fun b e => ⟨(hb b e).2, (hS.col b (hRN.lt e)).trans (hk b e), ?_, ?_⟩⟩
  · have := h0.bel.size; have := (hb b e).1; omega
  · have := h0.bx.1; have := (hb b e).1; omega

theorem FR.away {w W : World} {κ1 κ2 : Cl} {lo hi ab : Nat} {a : Option Addr} {n c : Nat} {L : List ByteArray} (h : FR w W κ1 κ2 lo hi a n c L) (h0 : ab < lo) (hw : w.heap.size ≤ lo) : ∀ b, blk a = some b → κ1 b = none ∧ κ2 b = none ∧ w.heap.size ≤ b ∧ b ≠ ab := fun b e => by
  obtain ⟨h1, h2, h3, h4⟩ := h.bl b e
  exact ⟨h1, h2, by omega, by omega⟩
theorem FR.wipe {w W W' : World} {κ1 κ2 : Cl} {lo hi : Nat} {a a' : Option Addr} {n c : Nat} {L : List ByteArray} (h : FR w W κ1 κ2 lo hi a n c L) (hg : W.grownBy W' (blk a')) (hb : ∀ b, blk a' = some b → b < lo) : FR w W' κ1 κ2 lo hi a n c L :=
  ⟨h.rn.keep hg.size (fun b e => hg.block b (h.rn.lt e) (fun q => by have := hb b q.symm; have := (h.bl b e).2.2.1; omega)), h.bl⟩

set_option maxRecDepth 100000 in
set_option maxHeartbeats 16000000 in
theorem walk_main (a : Option Addr) (n c : Nat) (l : List Ac) (m : Int) (w : World) (hl : l.length = n) (hA : ActsM w a l) (hn : n ≤ 200) :
    Calls Try.prog 3 #[.int .i64 m, .slice a n c] w fun e w' => e = .returned (.bool true) ∧ Below w.heap.size w w' := by
  have HL := hide hl
  have HA := hide hA
  have hn' : ¬ 200 < (n : Int) := by omega
  clear hl hA
  go_enter Try.func3, Try.ntmps3
  go_wp2_with (first
    | (go_at_call 7; go_must ((with_reducible refine (alive_any w).mono ?_); rintro e w1 ⟨rfl, hb1⟩; have HB1 := hide hb1; have C8 := hide (new_any m w1); clear hb1))
    | (go_at_call 8; go_must ((with_reducible refine C8.out.mono ?_); rintro e w2 ⟨rfl, hT, hB⟩; have HQ0 := hide (PQ.start HB1.out hT hB rfl); clear hT hB)))
  clear C8
  generalize w2.alloc (.cells #[.int .i64 m, .slice none 0 0, .slice none 0 0, .slice none 0 0] 30) = w3 at HQ0 ⊢
  generalize w1.heap.size = cT at HQ0 ⊢
  generalize w2.heap.size = cU at HQ0 ⊢
  go_loopw [8] (fun i wr => ∃ k : Nat, k ≤ n ∧ i = .int .i64 (k : Nat) ∧ Hid (PQ w wr cT cU m k)) (fun i _ => n - (intOf i).toNat)
  case atStart => exact ⟨0, by omega, rfl, HQ0⟩
  case round =>
    obtain ⟨k, hk, rfl, HQ⟩ := hrel
    by_cases hlt : k < n
    · obtain ⟨κ1, κ2, T, U, hM, hR⟩ := HQ.out.ex
      obtain ⟨b, off, y, rfl, hok, ha0, ha1, ha2, ha3⟩ := acts_at HA.out (show k < l.length by have := HL.out; omega)
      obtain ⟨wy, id, on, a3, n3, c3, L⟩ := y
      obtain ⟨hL1, hL2, hL3⟩ := hok
      dsimp only at ha0 ha1 ha2 ha3 hL1 hL2 hL3
      have hc0 := keep_cell ha0 hM.bel
      have hc1 := keep_cell ha1 hM.bel
      have hc2 := keep_cell ha2 hM.bel
      have hc3 := keep_cell ha3 hM.bel
      have hltI : (k : Int) < (n : Int) := by omega
      clear ha0 ha1 ha2 ha3 HQ
      go_upto_region 10 with fail
      generalize hV : wr.alloc (.cells #[.int .i64 wy, .string id, .string on, .slice a3 n3 c3] 33) = V at *
      have HX := hide (hM.box (xs := [.int .i64 wy, .string id, .string on, .slice a3 n3 c3]) hV)
      have HR := hide hR
      generalize hab : wr.heap.size = ab at *
      clear hab hV hc0 hc1 hc2 hc3 hM hR
      have hbelV := HX.out.bel
      have C9 := hide (names_any L a3 c3 V (hL3.below hbelV) (by omega))
      rw [hL1] at C9
      have HL3 := hide hL3
      have HL1 := hide hL1
      clear hL3 hL2 hL1
      have z1 := (HX.out.bx.at (o := 1) rfl).1
      have z2 := (HX.out.bx.at (o := 2) rfl).1
      have z3 := (HX.out.bx.at (o := 3) rfl).1
      have z0 := (HX.out.bx.at (o := 0) rfl).1
      go_upto_region 11 with (go_at_call 9; go_must ((with_reducible refine C9.out.mono ?_); rintro e w4 ⟨q, rfl, hq, rfl⟩; have HQ := hide hq; clear hq))
      clear C9
      cases q with
      | false =>
        go_wp2
        go_ret
        exact ⟨rfl, HX.out.bel⟩
      | true =>
        obtain ⟨hLn, hLs⟩ := HQ.out rfl
        by_cases hid : 100 < id.size
        · have hid' : (100 : Int) < (id.size : Int) := by omega
          go_wp2
          go_ret
          exact ⟨rfl, HX.out.bel⟩
        · by_cases hon : 100 < on.size
          · have hid' : ¬ (100 : Int) < (id.size : Int) := by omega
            have hon' : (100 : Int) < (on.size : Int) := by omega
            go_wp2
            go_ret
            exact ⟨rfl, HX.out.bel⟩
          · have hid' : ¬ (100 : Int) < (id.size : Int) := by omega
            have hon' : ¬ (100 : Int) < (on.size : Int) := by omega
            have hk200 : k ≤ 200 := by omega
            have hsum := HR.out.al
            have hlk := HR.out.lk
            have hgl := HR.out.gl
            have hwt := HR.out.wt
            have hUr : U.rdy.length ≤ 1000 := by rw [HR.out.r]; omega
            have hUg : U.goi.length ≤ 1000 := by omega
            have hUp : U.prk.length ≤ 1000 := by rw [HR.out.p]; omega
            have HUN := hide (show (nms U.prk).Nodup by rw [HR.out.p]; exact HR.out.pn)
            go_upto_block 2 with fail
            go_cut [11] from 67 to 167 (fun v wc => v = .bool true ∧ Hid (PX w wc cT cU ab [.int .i64 wy, .string id, .string on, .slice a3 n3 c3] m (k + 1)))
            case first =>
              have hways : wy = 0 ∨ wy = 1 ∨ wy = 2 ∨ wy = 3 ∨ wy = 4 ∨ wy = 5 ∨ ((wy == 0) = false ∧ (wy == 1) = false ∧ (wy == 2) = false ∧ (wy == 3) = false ∧ (wy == 4) = false ∧ (wy == 5) = false) := by
                simp only [beq_eq_false_iff_ne]; omega
              rcases hways with hw | hw | hw | hw | hw | hw | ⟨e0, e1, e2, e3, e4, e5⟩
              · subst hw
                have hpr := HR.out.add id
                have C11 := hide (add_at HX.out.drew.tab (show addT T id = ((addT T id).1, (addT T id).2) from rfl) (by omega) (by omega) (by omega))
                have C12 := hide (fun W κ (h : PA w W cT cU ab [.int .i64 0, .string id, .string on, .slice a3 n3 c3] κ κ2 (addT T id).2 U) => radd_any h.ref id (by omega) hUr hUg hUp HUN.out)
                unfold RAdd at C12
                rw [← hpr.1] at C12
                have HPR := hide hpr.2
                clear hpr
                generalize addT T id = r1 at *
                generalize (raddT U id).2 = u2 at *
                obtain ⟨ea, T1⟩ := r1
                dsimp only at C11 C12 HPR
                have hee : (ea == ea) = true := by simp
                go_upto_region 17 with fail
                go_region_held3 (fun W => W.cell? ⟨ab, 1, none⟩ = some (.string id) ∧ W.cell? ⟨ab, 2, none⟩ = some (.string on)) (first | exact ⟨z1, z2⟩ | exact ⟨y1, y2⟩ | exact ⟨x1, x2⟩ | go_keep) (first
                  | (go_at_call 11; (with_reducible refine C11.out.mono ?_); rintro e w5 ⟨rfl, κ5, hT5, hS5⟩; have HX5 := hide (HX.out.drew.stepT hT5 hS5); have y1 := (HX5.out.bx.at (o := 1) rfl).1; have y2 := (HX5.out.bx.at (o := 2) rfl).1; have C12b := hide (C12.out _ _ HX5.out); clear hT5 hS5)
                  | (go_at_call 10; (with_reducible refine (num_any _ _).mono ?_); rintro e w6 ⟨rfl, rfl⟩)
                  | (go_at_call 12; (with_reducible refine C12b.out.mono ?_); rintro e w7 ⟨rfl, κ7, hU7, hS7⟩; have HX7 := hide (HX5.out.stepU hU7 hS7); have x1 := (HX7.out.bx.at (o := 1) rfl).1; have x2 := (HX7.out.bx.at (o := 2) rfl).1; clear hU7 hS7))
                go_wp2
                go_meet
                exact ⟨rfl, hide ⟨_, _, _, _, HX7.out, HPR.out⟩⟩
              · subst hw
                rcases T.rdy.eq_nil_or_concat with he | ⟨L0, x, hL0⟩
                · have C13 := hide (next_none HX.out.tab (by omega) (by omega) HR.out.rg he)
                  have C14 := hide (rnext_none HX.out.ref (HR.out.r.trans he))
                  have HPR := hide HR.out.more
                  clear he
                  go_wp2_with (first
                    | (go_at_call 13; go_must ((with_reducible refine C13.out.mono ?_); rintro e w5 ⟨rfl, rfl⟩))
                    | (go_at_call 14; go_must ((with_reducible refine C14.out.mono ?_); rintro e w6 ⟨rfl, rfl⟩)))
                  go_meet
                  exact ⟨rfl, hide ⟨_, _, _, _, HX.out, HPR.out⟩⟩
                · rw [List.concat_eq_append] at hL0
                  have C13 := hide (next_some HX.out.tab (by omega) (by omega) HR.out.rg hL0)
                  have hxg : x ∉ U.goi := fun e => HR.out.rg x (by rw [hL0]; simp) ((HR.out.gm x).1 e)
                  have C14 := hide (fun W κ (h : PA w W cT cU ab [.int .i64 1, .string id, .string on, .slice a3 n3 c3] κ κ2 { T with rdy := L0, goi := x :: T.goi } U) => rnext_some h.ref (HR.out.r.trans hL0) hUr hUg hxg)
                  unfold RTwo at C14
                  have HPR := hide (HR.out.next hL0)
                  have hxx : (x.toList == x.toList) = true := by simp
                  clear hL0 hxg
                  go_wp2_with (first
                    | (go_at_call 13; go_must ((with_reducible refine C13.out.mono ?_); rintro e w5 ⟨rfl, -, κ5, hT5, hS5⟩; have HX5 := hide (HX.out.stepT hT5 hS5); have C14b := hide (C14.out _ _ HX5.out); clear hT5 hS5))
                    | (go_at_call 14; go_must ((with_reducible refine C14b.out.mono ?_); rintro e w7 ⟨rfl, κ7, hU7, hS7⟩; have HX7 := hide (HX5.out.stepU hU7 hS7); clear hU7 hS7)))
                  go_meet
                  exact ⟨rfl, hide ⟨_, _, _, _, HX7.out, HPR.out⟩⟩
              · subst hw
                have hpr := HR.out.back id
                have C15 := hide (back_any HX.out.drew.tab id (by omega) (by omega))
                have C16 := hide (fun W κ (h : PA w W cT cU ab [.int .i64 2, .string id, .string on, .slice a3 n3 c3] κ κ2 (backT T id).2 U) => rback_any h.ref id hUr hUg)
                unfold RPost at C16
                rw [← hpr.1] at C16
                have HPR := hide hpr.2
                clear hpr
                generalize backT T id = r1 at *
                generalize rbackU U id = u2 at *
                obtain ⟨ea, T1⟩ := r1
                dsimp only at C15 C16 HPR
                have hee : (ea == ea) = true := by simp
                go_upto_region 23 with fail
                go_region_held3 (fun W => W.cell? ⟨ab, 1, none⟩ = some (.string id) ∧ W.cell? ⟨ab, 2, none⟩ = some (.string on)) (first | exact ⟨z1, z2⟩ | exact ⟨y1, y2⟩ | exact ⟨x1, x2⟩ | go_keep) (first
                  | (go_at_call 15; (with_reducible refine C15.out.mono ?_); rintro e w5 ⟨rfl, κ5, hT5, hS5⟩; have HX5 := hide (HX.out.drew.stepT hT5 hS5); have y1 := (HX5.out.bx.at (o := 1) rfl).1; have y2 := (HX5.out.bx.at (o := 2) rfl).1; have C16b := hide (C16.out _ _ HX5.out); clear hT5 hS5)
                  | (go_at_call 16; (with_reducible refine C16b.out.mono ?_); rintro e w7 ⟨rfl, κ7, hU7, hS7⟩; have HX7 := hide (HX5.out.stepU hU7 hS7); have x1 := (HX7.out.bx.at (o := 1) rfl).1; have x2 := (HX7.out.bx.at (o := 2) rfl).1; clear hU7 hS7))
                go_wp2
                go_meet
                exact ⟨rfl, hide ⟨_, _, _, _, HX7.out, HPR.out⟩⟩
              · subst hw
                have hpr := HR.out.park id on
                have C17 := hide (park_any HX.out.drew.tab id on (by omega) (by omega) (by omega) (by omega))
                have C18 := hide (fun W κ (h : PA w W cT cU ab [.int .i64 3, .string id, .string on, .slice a3 n3 c3] κ κ2 (parkT T id on).2 U) => rpark_any h.ref id on (by omega) hUg hUp)
                unfold RPost at C18
                rw [← hpr.1] at C18
                have HPR := hide hpr.2
                clear hpr
                generalize parkT T id on = r1 at *
                generalize rparkU U id on = u2 at *
                obtain ⟨ea, T1⟩ := r1
                dsimp only at C17 C18 HPR
                have hee : (ea == ea) = true := by simp
                go_upto_region 25 with fail
                go_region_held3 (fun W => W.cell? ⟨ab, 1, none⟩ = some (.string id) ∧ W.cell? ⟨ab, 2, none⟩ = some (.string on)) (first | exact ⟨z1, z2⟩ | exact ⟨y1, y2⟩ | exact ⟨x1, x2⟩ | go_keep) (first
                  | (go_at_call 17; (with_reducible refine C17.out.mono ?_); rintro e w5 ⟨rfl, κ5, hT5, hS5⟩; have HX5 := hide (HX.out.drew.stepT hT5 hS5); have y1 := (HX5.out.bx.at (o := 1) rfl).1; have y2 := (HX5.out.bx.at (o := 2) rfl).1; have C18b := hide (C18.out _ _ HX5.out); clear hT5 hS5)
                  | (go_at_call 18; (with_reducible refine C18b.out.mono ?_); rintro e w7 ⟨rfl, κ7, hU7, hS7⟩; have HX7 := hide (HX5.out.stepU hU7 hS7); have x1 := (HX7.out.bx.at (o := 1) rfl).1; have x2 := (HX7.out.bx.at (o := 2) rfl).1; clear hU7 hS7))
                go_wp2
                go_meet
                exact ⟨rfl, hide ⟨_, _, _, _, HX7.out, HPR.out⟩⟩
              · subst hw
                have hrV := HL3.out.below HX.out.bel
                have hold := reads_old HL3.out
                have C19 := hide (wake_w HX.out.tab L a3 n3 c3 HL1.out hrV (fun a0 e h0 => by
                  have := hold a0 e h0
                  cases hc : κ1 a0.block with
                  | none => rfl
                  | some t => have := HX.out.n1 a0.block (by rw [hc]; simp); omega) (by omega) (fun x hx => by have := hLs x hx; omega) (by omega) (by omega))
                have C21 := hide (fun W κ T' (h : PA w W cT cU ab [.int .i64 4, .string id, .string on, .slice a3 n3 c3] κ κ2 T' U) => rwake_any h.ref L a3 c3 (HL3.out.below h.bel) (by omega) hUr hUp HUN.out)
                unfold RWake at C21
                rw [HL1.out, HR.out.p] at C21
                have hwk := woke_len T.prk L
                have hwk2 : (woke T.prk L).length ≤ 1000 := by omega
                have HPR := hide (HR.out.wake L)
                rw [HR.out.p] at HPR
                have HWX := hide (fun W W' κ1' κ2' a n c R => @wake_x w w4 W W' cT cU ab _ κ1 κ1' κ2 κ2' T U a n c R HX.out)
                generalize woke T.prk L = R at *
                generalize stay T.prk L = Z at *
                obtain ⟨nr, hnr⟩ : ∃ nr, nr = R.length := ⟨_, rfl⟩
                rw [← hnr] at C19 C21 hwk2
                have HNR := hide hnr
                clear hrV hold hwk hnr
                go_wp2_with (first
                  | (go_at_call 19; go_must ((with_reducible refine C19.out.mono ?_); rintro e w5 ⟨a5, c5, κ5, rfl, hRN, hb5, hT5, hS5⟩; have HX5 := hide (HX.out.stepT hT5 hS5); have u3 := (HX5.out.bx.at (o := 3) rfl).1; have C21b := hide (C21.out _ _ _ HX5.out); have HRN := hide hRN; have HB5 := hide hb5; have HS5 := hide hS5.kp.size; clear hT5 hS5 hRN hb5))
                  | (go_at_call 21; go_must ((with_reducible refine C21b.out.mono ?_); rintro e w6 ⟨a6, c6, κ6, rfl, ho6, hb6, hU6, hS6⟩; have HX6 := hide (HX5.out.stepU hU6 hS6); have hwx := HWX.out _ _ κ5 κ6 _ _ _ _ HRN.out HB5.out hS6; have HRN6 := hide hwx.1; have HB6 := hide hwx.2; obtain ⟨_, _, e6, hR6, _⟩ := own_formS ho6; have CS := hide (same_eq (c := c5) (e := c6) HNR.out.symm hwk2 hwx.1.reads (by cases e6; exact hR6.reads)); clear hwx ho6 hb6 hU6 hS6 e6 hR6))
                  | (go_at_call 20; go_must ((with_reducible refine CS.out.mono ?_); rintro e w7 ⟨rfl, hb7⟩; have HX7 := hide (HX6.out.below hb7); have CW := hide (wipe_any w7 a5 nr c5 R (HRN6.out.below hb7) (by omega)); clear hb7))
                  | (go_at_call 22; go_must ((with_reducible refine CW.out.mono ?_); rintro e w8 ⟨rfl, hg8⟩; have HX8 := hide (HX7.out.wipe hg8 HB6.out); clear hg8)))
                go_meet
                exact ⟨rfl, hide ⟨_, _, _, _, HX8.out, HPR.out⟩⟩
              · subst hw
                cases hL0 : T.rdy with
                | nil =>
                  have C23 := hide (steal_none HX.out.tab (by omega) hL0)
                  have C24 := hide (rsteal_none HX.out.ref (HR.out.r.trans hL0))
                  have HPR := hide HR.out.more
                  clear hL0
                  go_wp2_with (first
                    | (go_at_call 23; go_must ((with_reducible refine C23.out.mono ?_); rintro e w5 ⟨rfl, rfl⟩))
                    | (go_at_call 24; go_must ((with_reducible refine C24.out.mono ?_); rintro e w6 ⟨rfl, rfl⟩)))
                  go_meet
                  exact ⟨rfl, hide ⟨_, _, _, _, HX.out, HPR.out⟩⟩
                | cons x L0 =>
                  have C23 := hide (steal_some HX.out.tab (by omega) hL0)
                  have C24 := hide (fun W κ (h : PA w W cT cU ab [.int .i64 5, .string id, .string on, .slice a3 n3 c3] κ κ2 { T with rdy := L0, al := del T.al x } U) => rsteal_some h.ref (HR.out.r.trans hL0) hUr)
                  unfold RTwo at C24
                  have HPR := hide (HR.out.steal hL0)
                  have hxx : (x.toList == x.toList) = true := by simp
                  clear hL0
                  go_wp2_with (first
                    | (go_at_call 23; go_must ((with_reducible refine C23.out.mono ?_); rintro e w5 ⟨rfl, -, hT5, hS5⟩; have HX5 := hide (HX.out.stepT hT5 hS5); have C24b := hide (C24.out _ _ HX5.out); clear hT5 hS5))
                    | (go_at_call 24; go_must ((with_reducible refine C24b.out.mono ?_); rintro e w7 ⟨rfl, κ7, hU7, hS7⟩; have HX7 := hide (HX5.out.stepU hU7 hS7); clear hU7 hS7)))
                  go_meet
                  exact ⟨rfl, hide ⟨_, _, _, _, HX7.out, HPR.out⟩⟩
              · have hpr := HR.out.done id
                have C25 := hide (end_any HX.out.drew.tab id (by omega))
                have C26 := hide (fun W κ (h : PA w W cT cU ab [.int .i64 wy, .string id, .string on, .slice a3 n3 c3] κ κ2 (endT T id).2 U) => rend_any h.ref id hUg)
                unfold RPost at C26
                rw [← hpr.1] at C26
                have HPR := hide hpr.2
                clear hpr
                generalize endT T id = r1 at *
                generalize rendU U id = u2 at *
                obtain ⟨ea, T1⟩ := r1
                dsimp only at C25 C26 HPR
                have hee : (ea == ea) = true := by simp
                go_upto_region 15 with fail
                go_region_held3 (fun W => W.cell? ⟨ab, 1, none⟩ = some (.string id) ∧ W.cell? ⟨ab, 2, none⟩ = some (.string on)) (first | exact ⟨z1, z2⟩ | exact ⟨y1, y2⟩ | exact ⟨x1, x2⟩ | go_keep) (first
                  | (go_at_call 25; (with_reducible refine C25.out.mono ?_); rintro e w5 ⟨rfl, hT5, hS5⟩; have HX5 := hide (HX.out.drew.stepT hT5 hS5); have y1 := (HX5.out.bx.at (o := 1) rfl).1; have y2 := (HX5.out.bx.at (o := 2) rfl).1; have C26b := hide (C26.out _ _ HX5.out); clear hT5 hS5)
                  | (go_at_call 26; (with_reducible refine C26b.out.mono ?_); rintro e w7 ⟨rfl, κ7, hU7, hS7⟩; have HX7 := hide (HX5.out.stepU hU7 hS7); have x1 := (HX7.out.bx.at (o := 1) rfl).1; have x2 := (HX7.out.bx.at (o := 2) rfl).1; clear hU7 hS7))
                go_wp2
                go_meet
                exact ⟨rfl, hide ⟨_, _, _, _, HX7.out, HPR.out⟩⟩
            case rest =>
              obtain ⟨rfl, HP⟩ := hcut
              clear HX HR HUN hUr hUg hUp hsum hlk hgl hwt z0 z1 z2 z3
              obtain ⟨κ5, κ6, T5, U5, hX5, hR5⟩ := HP.out
              have HR5 := hide hR5
              have hsum := hR5.al
              have hlk := hR5.lk
              have hgl := hR5.gl
              have hall := hR5.all
              obtain ⟨nr, hnr⟩ : ∃ nr, nr = T5.rdy.length := ⟨_, rfl⟩
              obtain ⟨nl, hnl⟩ : ∃ nl, nl = T5.al.length := ⟨_, rfl⟩
              have C27 := hide (tab_ready hX5.tab (by omega))
              rw [← hnr] at C27
              have hb1 : nr ≤ 1000 := by omega
              have hb2 : T5.goi.length ≤ 1000 := by omega
              have hb3 : T5.prk.length ≤ 1000 := by omega
              have hnn : ((nl : Int) != (nl : Int)) = false := by simp
              have HNR := hide hnr
              have HNL := hide hnl
              have HAL := hide hall
              have HX5 := hide hX5
              have HUP := hide (show U5.prk.length ≤ 1000 by rw [hR5.p]; exact hb3)
              have HUG := hide (show U5.goi.length ≤ 1000 by rw [hR5.gl]; exact hb2)
              have HUN := hide (show (nms U5.prk).Nodup by rw [hR5.p]; exact hR5.pn)
              obtain ⟨M, hM⟩ : ∃ M, M = sortR (nms T5.prk) := ⟨_, rfl⟩
              have hMl : M.length ≤ 1000 := by rw [hM]; exact Nat.le_trans (sort_len _) (by simpa [nms] using hb3)
              obtain ⟨nm, hnm⟩ : ∃ nm, nm = M.length := ⟨_, rfl⟩
              obtain ⟨ng, hng⟩ : ∃ ng, ng = U5.goi.length := ⟨_, rfl⟩
              have hngl : ng ≤ 1000 := by rw [hng]; exact HUG.out
              rw [← hnm] at hMl
              have HM := hide hM
              have HNM := hide hnm
              have HNG := hide hng
              have HLK := hide hlk
              have HP3 := hide hb3
              have HP2 := hide hb2
              clear hX5 hR5 hsum hlk hgl hall hnr hnl hM hnm hng hb2 hb3 HP
              go_upto_region 37 with (first
                | (go_at_call 27; go_must ((with_reducible refine C27.out.mono ?_); rintro e w6 ⟨v6, rfl, ho6, hb6⟩; obtain ⟨a6, c6, rfl, hF6⟩ := HX5.out.toPM.fr ho6; have HX6 := hide (HX5.out.below hb6); have HF6 := hide hF6; have C28 := hide (parked_any HX6.out.tab HP3.out); unfold RisP at C28; have HA5 := hide HX5.out.bx.1; have HW5 := hide HX5.out.bel.size; clear ho6 hb6 hF6))
                | (go_at_call 28; go_must ((with_reducible refine C28.out.mono ?_); rintro e w7 ⟨v7, R7, rfl, ho7, hr1, hr2, hrl, hb7⟩; obtain rfl : R7 = M := (rise_unique _ _ hr1 (sort_rise _) (fun x => by rw [hr2, sort_mem]; simp [nms])).trans HM.out.symm; rw [← HNM.out] at ho7; obtain ⟨a7, c7, rfl, hF7⟩ := HX6.out.toPM.fr ho7; have HX7 := hide (HX6.out.below hb7); have HF67 := hide (HF6.out.below hb7); have HF7 := hide hF7; have C29 := hide (tab_going HX7.out.tab HP2.out); unfold RisP at C29; have HS7 := hide hb7.size; clear ho7 hb7 hF7 hr1 hr2 hrl))
                | (go_at_call 29; go_must ((with_reducible refine C29.out.mono ?_); rintro e w8 ⟨v8, R8, rfl, ho8, hr1, hr2, hrl, hb8⟩; obtain rfl : R8 = U5.goi := rise_unique _ _ hr1 HR5.out.gr (fun x => by rw [hr2, HR5.out.gm]); rw [← HNG.out] at ho8; obtain ⟨a8, c8, rfl, hF8⟩ := HX7.out.toPM.fr ho8; have HX8 := hide (HX7.out.below hb8); have HF68 := hide (HF67.out.below hb8); have HF78 := hide (HF7.out.below hb8); have HF8 := hide hF8; have HS8 := hide hb8.size; clear ho8 hb8 hF8 hr1 hr2 hrl)))
              have HLEN := hide (show T5.rdy.length = nr from HNR.out.symm)
              have HRD := hide HR5.out.r
              obtain ⟨vr, vg, vp, hC⟩ := HX8.out.ref
              obtain ⟨a1, k1, rfl, _, _, hr1⟩ := own_formN hC.r
              obtain ⟨a2, k2, rfl, _, _, hr2⟩ := own_formN hC.g
              have u1 := (hC.box.at (o := 1) rfl).1
              have u2 := (hC.box.at (o := 2) rfl).1
              rw [HRD.out, HLEN.out] at u1
              rw [HRD.out] at hr1
              rw [← HNG.out] at u2
              have CS1 := hide (same_eq (c := c6) (e := k1) HLEN.out hb1 HF68.out.rn.reads hr1)
              have HG2 := hide hr2
              clear hC hr1 hr2
              go_upto_region 39 with (first
                | (go_at_call 20; (with_reducible refine CS1.out.mono ?_); go_must (rintro e w9 ⟨rfl, hb9⟩; have HX9 := hide (HX8.out.below hb9); have HF69 := hide (HF68.out.below hb9); have HF79 := hide (HF78.out.below hb9); have HF89 := hide (HF8.out.below hb9); have HG9 := hide (HG2.out.below hb9); have u3 := keep_cell u2 hb9; have C30 := hide (rparked_any HX9.out.ref HUP.out HUN.out); rw [HR5.out.p, ← HM.out, ← HNM.out] at C30; clear hb9))
                | (go_at_call 30; go_must ((with_reducible refine C30.out.mono ?_); rintro e wa ⟨va, rfl, hoa, hba⟩; obtain ⟨aa, ca, rfl, hFa⟩ := HX9.out.toPM.fr hoa; have HXa := hide (HX9.out.below hba); have HF6a := hide (HF69.out.below hba); have HF7a := hide (HF79.out.below hba); have HF8a := hide (HF89.out.below hba); have HGa := hide (HG9.out.below hba); have u4 := keep_cell u3 hba; have CS2 := hide (same_eq (c := c7) (e := ca) HNM.out.symm hMl HF7a.out.rn.reads hFa.rn.reads); clear hoa hba hFa))
                | (go_at_call 20; (with_reducible refine CS2.out.mono ?_); go_must (rintro e wb ⟨rfl, hbb⟩; have HXb := hide (HXa.out.below hbb); have HF6b := hide (HF6a.out.below hbb); have HF7b := hide (HF7a.out.below hbb); have HF8b := hide (HF8a.out.below hbb); have u5 := keep_cell u4 hbb; have CS3 := hide (same_eq (c := c8) (e := k2) HNG.out.symm hngl HF8b.out.rn.reads (HGa.out.below hbb)); clear hbb))
                | (go_at_call 20; (with_reducible refine CS3.out.mono ?_); go_must (rintro e wc ⟨rfl, hbc⟩; have HXc := hide (HXb.out.below hbc); have HF6c := hide (HF6b.out.below hbc); have HF7c := hide (HF7b.out.below hbc); have HF8c := hide (HF8b.out.below hbc); have C31 := hide (len_any HXc.out.tab); rw [← HNL.out] at C31; have C32 := hide (rlen_any HXc.out.ref (by rw [HRD.out, HLEN.out]; exact hb1) HUG.out HUP.out); rw [HAL.out, ← HNL.out] at C32; clear hbc))
                | (go_at_call 31; go_must ((with_reducible refine C31.out.mono ?_); rintro e wd ⟨rfl, rfl⟩))
                | (go_at_call 32; go_must ((with_reducible refine C32.out.mono ?_); rintro e we ⟨rfl, q, rfl⟩)))
              have hbq := belowN (Below.refl wd.heap.size wd) q
              have HXe := hide (HXc.out.drewN q)
              have HF6e := hide (HF6c.out.below hbq)
              have HF7e := hide (HF7c.out.below hbq)
              have HF8e := hide (HF8c.out.below hbq)
              generalize World.drewN _ q = we at HXe HF6e HF7e HF8e ⊢
              have CW1 := hide (wipe_any we a6 nr c6 _ HF6e.out.rn (by omega))
              clear HX8 hbq
              go_wp2_with (first
                | (go_at_call 22; (with_reducible refine CW1.out.mono ?_); go_must (rintro e wf ⟨rfl, hgf⟩; have HXf := hide (HXe.out.wipe hgf (HF6e.out.away HA5.out HW5.out)); have HF7f := hide (HF7e.out.wipe hgf (fun b e => (HF6e.out.bl b e).2.2.2)); have HF8f := hide (HF8e.out.wipe hgf (fun b e => by have := (HF6e.out.bl b e).2.2.2; have := HS7.out; omega)); have CW2 := hide (wipe_any wf a7 nm c7 _ HF7f.out.rn (by omega)); clear hgf))
                | (go_at_call 22; (with_reducible refine CW2.out.mono ?_); go_must (rintro e wg ⟨rfl, hgg⟩; have HXg := hide (HXf.out.wipe hgg (HF7f.out.away (by have := HX6.out.bx.1; omega) HX6.out.bel.size)); have HF8g := hide (HF8f.out.wipe hgg (fun b e => (HF7f.out.bl b e).2.2.2)); have CW3 := hide (wipe_any wg a8 ng c8 _ HF8g.out.rn (by omega)); clear hgg))
                | (go_at_call 22; (with_reducible refine CW3.out.mono ?_); go_must (rintro e wh ⟨rfl, hgh⟩; have HXh := hide (HXg.out.wipe hgh (HF8g.out.away (by have := HX7.out.bx.1; omega) HX7.out.bel.size)); clear hgh)))
              go_roundw
              case rel => exact ⟨k + 1, by omega, by go_num, hide ⟨⟨κ5, κ6, T5, U5, HXh.out.toPM, HR5.out⟩⟩⟩
              case measure => simp [intOf]; omega

    · obtain rfl : k = n := by omega
      have hltI : ¬ (k : Int) < (k : Int) := by omega
      obtain ⟨κ1, κ2, T, U, hM, hR⟩ := HQ.out.ex
      have HB := hide hM.bel
      clear hM hR
      go_wp2
      go_ret
      exact ⟨rfl, HB.out⟩

set_option maxRecDepth 100000 in
theorem walk_skip (a : Option Addr) (n c : Nat) (m : Int) (w : World) (hn : 200 < n) : Calls Try.prog 3 #[.int .i64 m, .slice a n c] w fun e w' => e = .returned (.bool true) ∧ Below w.heap.size w w' := by
  have hn' : (200 : Int) < (n : Int) := by omega
  go_enter Try.func3, Try.ntmps3
  go_wp2_with (go_at_call 7; go_must ((with_reducible refine (alive_any w).mono ?_); rintro e w1 ⟨rfl, hb1⟩; have HB1 := hide hb1; clear hb1))
  go_ret
  exact ⟨rfl, HB1.out⟩
theorem walk (m : Int) (a : Option Addr) (n c : Nat) (l : List Ac) (w : World) (hl : l.length = n) (hA : ActsM w a l) : Calls Try.prog 3 #[.int .i64 m, .slice a n c] w fun e w' => e = .returned (.bool true) ∧ Below w.heap.size w w' := by
  by_cases hn : 200 < n
  · exact walk_skip a n c m w hn
  · exact walk_main a n c l m w hl hA (by omega)
end tablePlays
end Go.Proofs.Ytandbkbodlbjcaa
