/- find: which function of a list has a name. -/
import Derived.Test.YtfnloomcianbiaaGreatDoorName
namespace Go.Proofs.YtfnloomcianbiaaGreatDoor
open Go.RowKit Go.ChangeShapes Go.WideShapes Go.ChangeAt Go.Deep

/-- A function as its four cells hold it. -/
structure FR where
  name : ByteArray
  args : Int
  locals : Int
  code : Value
instance : Inhabited FR := ⟨⟨⟨#[]⟩, 0, 0, .slice none 0 0⟩⟩
def FR.enc (x : FR) : List Value := [.string x.name, .int .i64 x.args, .int .i64 x.locals, x.code]

/-- Which of them has that name; -1: none. -/
def findL (nm : ByteArray) (fs : List FR) : Int := Lib.idxBy (fun _ (y : FR) => y.name.toList == nm.toList) fs default

/-- The functions' cells lie there. -/
def FReads (w : World) (a : Option Addr) (fs : List FR) : Prop := (a = none ∧ fs = []) ∨ ∃ b off, a = some ⟨b, off, none⟩ ∧ b < w.heap.size ∧ ∀ j, j < fs.length → ∀ i v, (FR.enc fs[j]!)[i]? = some v → w.cell? ⟨b, off + j * 4 + i, none⟩ = some v

theorem FReads.below {w w' : World} {a : Option Addr} {fs : List FR} (h : FReads w a fs) (hb : Below w.heap.size w w') : FReads w' a fs := by
  rcases h with h | ⟨b, off, rfl, hl, h⟩
  · exact .inl h
  · exact .inr ⟨b, off, rfl, Nat.lt_of_lt_of_le hl hb.size, fun j hj i v hv => keep_cell (h j hj i v hv) hb⟩

set_option maxRecDepth 100000 in
set_option maxHeartbeats 400000 in
theorem pred_any (nm : ByteArray) (b : Nat) (w : World) (hb : b < w.heap.size) (hc : w.cell? ⟨b, 0, none⟩ = some (.string nm)) :
    PredBelow Tryz.prog 54 #[.pointer (some ⟨b, 0, none⟩)] (fun x : FR => .agg (FR.enc x).toArray) (fun x => x.name.toList == nm.toList) w := fun W x hW => by
  have hc' : W.cell? ⟨b, 0, none⟩ = some (.string nm) := (hW.cell (p := ⟨b, 0, none⟩) hb).trans hc
  have hb' : b < W.heap.size := Nat.lt_of_lt_of_le hb hW.size
  obtain ⟨xn, xa, xl, xc⟩ := x
  show Calls Tryz.prog 54 #[.agg #[.string xn, .int .i64 xa, .int .i64 xl, xc], .pointer (some ⟨b, 0, none⟩)] W _
  clear hc hb
  go_enter Tryz.func54, Tryz.ntmps54
  go_wp2
  go_ret
  exact ⟨rfl, hW.alloc hW.size _⟩

set_option maxRecDepth 100000 in
set_option maxHeartbeats 400000 in
theorem idx_nil (f : Value) (cap : Nat) (w : World) : Calls Tryz.prog 53 #[.slice none 0 cap, f] w fun e w' => e = .returned (.int .i64 (-1)) ∧ Below w.heap.size w w' := by
  go_enter Tryz.func53, Tryz.ntmps53
  go_wp2
  go_loopw [8] (fun i wr => wr = w ∧ i = .int .i64 0) (fun _ _ => 0)
  case atStart => exact ⟨rfl, rfl⟩
  case round =>
    obtain ⟨rfl, rfl⟩ := hrel
    go_wp2
    go_ret
    exact ⟨rfl, Below.refl _ _⟩

set_option maxRecDepth 100000 in
set_option maxHeartbeats 400000 in
theorem find_any (nm : ByteArray) (a : Option Addr) (cap : Nat) (n : Nat) (fs : List FR) (hn : fs.length = n) (hbig : n ≤ 9223372036854775807) (w : World) (hr : FReads w a fs) :
    Calls Tryz.prog 36 #[.string nm, .slice a n cap] w fun e w' => e = .returned (.int .i64 (findL nm fs)) ∧ Below w.heap.size w w' := by
  have hb1 : Below w.heap.size w (w.alloc (.cells #[.string nm] 9)) := (Below.refl _ _).alloc (Nat.le_refl _) _
  have hr1 := hr.below hb1
  rcases hr1 with ⟨rfl, rfl⟩ | ⟨b, off, rfl, hlt, hc⟩
  · have C := fun f w => idx_nil f cap w
    have : n = 0 := by rw [← hn]; rfl
    subst this
    have HO := hide (show findL nm [] = -1 from rfl)
    go_enter Tryz.func36, Tryz.ntmps36
    go_wp2_with (go_at_call 53; go_must (refine (C _ _).mono ?_; rintro e w1 ⟨rfl, hb2⟩))
    go_ret
    exact ⟨by rw [HO.out]; rfl, hb1.trans (hb2.mono (by simp))⟩
  · have hp := pred_any nm w.heap.size (w.alloc (.cells #[.string nm] 9)) (by simp) (by simp)
    have C : Calls Tryz.prog 53 #[.slice (some ⟨b, off, none⟩) n cap, .func (.func 54) #[] #[.pointer (some ⟨w.heap.size, 0, none⟩)]] (w.alloc (.cells #[.string nm] 9)) fun e w' => e = .returned (.int .i64 (findL nm fs)) ∧ Below (w.alloc (.cells #[.string nm] 9)).heap.size (w.alloc (.cells #[.string nm] 9)) w' := by
      have D := AnyQ.slices_IndexFunc Tryz.laysH6 4 Tryz.isAgg45 Tryz.sizeOf45 FR.enc (fun _ => rfl) (fun x => x.name.toList == nm.toList) 54 #[.pointer (some ⟨w.heap.size, 0, none⟩)] (enters_of Tryz.func54 (by kernel_rfl) rfl) b off n cap fs _ hp (by omega) hbig hlt hc
      rw [List.take_of_length_le (by omega)] at D
      exact D
    generalize findL nm fs = r at C ⊢
    clear hc hr hp
    go_enter Tryz.func36, Tryz.ntmps36
    go_wp2_with (go_at_call 53; go_must (refine C.mono ?_; rintro e w1 ⟨rfl, hb2⟩))
    go_ret
    exact ⟨rfl, hb1.trans (hb2.mono (by simp))⟩
end Go.Proofs.YtfnloomcianbiaaGreatDoor
/- numbers: words read as numbers. -/

namespace Go.Proofs.YtfnloomcianbiaaGreatDoor
open Go.RowKit Go.ChangeShapes Go.WideShapes Go.ChangeAt Go.Deep

/-- The package's variables, as they are laid. -/
structure Env (w : World) : Prop where
  size : 9 ≤ w.heap.size
  tab : Tab w
  pow : Lib.TabIs Tryz.prog w "internal/strconv.uint64pow10" .u64 Lib.pow10Tab
  syn : ∃ tp p, w.var? Tryz.prog "strconv.ErrSyntax" = some #[.iface tp p]
  rng : ∃ tp p, w.var? Tryz.prog "strconv.ErrRange" = some #[.iface tp p]
  mx : ∃ m, w.cell? ⟨1, 0, none⟩ = some (.int .i64 m)

theorem Env.on {w w' : World} {B : Nat} (h : Env w) (hb : Below B w w') (hB : 9 ≤ B) : Env w' := by
  have hv : ∀ nm g, Tryz.prog.globalNamed nm = some g → g < 9 → w'.var? Tryz.prog nm = w.var? Tryz.prog nm := fun nm g e hg => by
    simp only [World.var?, e, Option.bind_some]
    rw [hb.block g (by omega)]
  refine ⟨Nat.le_trans h.size hb.size, fun j hj => ?_, ?_, ?_, ?_, ?_⟩
  · obtain ⟨h0, h1, h2, h3⟩ := h.tab j hj
    have q : ∀ o, w'.cell? ⟨0, o, none⟩ = w.cell? ⟨0, o, none⟩ := fun o => World.cell?_of_block (hb.block 0 (by omega))
    exact ⟨(q _).trans h0, (q _).trans h1, (q _).trans h2, (q _).trans h3⟩
  · show w'.var? Tryz.prog _ = _
    rw [hv "internal/strconv.uint64pow10" 2 (by kernel_rfl) (by omega)]
    exact h.pow
  · rw [hv "strconv.ErrSyntax" 3 (by kernel_rfl) (by omega)]
    exact h.syn
  · rw [hv "strconv.ErrRange" 4 (by kernel_rfl) (by omega)]
    exact h.rng
  · obtain ⟨m, hm⟩ := h.mx
    exact ⟨m, (World.cell?_of_block (a := ⟨1, 0, none⟩) (hb.block 1 (by omega))).trans hm⟩

theorem Env.below {w w' : World} (h : Env w) (hb : Below w.heap.size w w') : Env w' := h.on hb h.size

/-- A word as a number, written as it would be printed. -/
def num (s : ByteArray) : Option Int := match Lib.atoiAll s.data.toList with
  | .ok v => if Lib.itoa v = s.data.toList then some v else none
  | _ => none
def numsL (ws : List ByteArray) : Option (List Int) := if ∀ s ∈ ws, (num s).isSome = true then some (ws.filterMap num) else none

theorem atoi_ok (s : ByteArray) (hs : s.size ≤ 281474976710656) (v : Int) (h : Lib.atoiAll s.data.toList = .ok v) (w : World) :
    Calls Tryz.prog 64 #[.string s] w fun e w' => e = .returned (.tuple #[.int .i64 v, .nilIface]) ∧ Below w.heap.size w w' :=
  (Tryz.strconv_Atoi_ok s (by omega) v h w).mono fun e w' hh => ⟨hh.1, by
    rcases hh.2 with rfl | ⟨t, rfl⟩
    · exact Below.refl _ _
    · exact Lib.bytesWorld_below _ _ _⟩

theorem atoi_no (s : ByteArray) (hs : s.size ≤ 281474976710656) (h : ∀ v, Lib.atoiAll s.data.toList ≠ .ok v) (w : World) (hE : Env w) :
    Calls Tryz.prog 64 #[.string s] w fun e w' => ∃ x p, e = .returned (.tuple #[.int .i64 x, .iface 129 p]) ∧ Below w.heap.size w w' := by
  cases hq : Lib.atoiAll s.data.toList with
  | ok v => exact absurd hq (h v)
  | «syntax» =>
    obtain ⟨tp, p, hv⟩ := hE.syn
    exact (Tryz.strconv_Atoi_syntax_var s hs hq tp p w hv).mono fun e w' ⟨N, he, _, _, hb⟩ => ⟨_, _, he, hb⟩
  | range =>
    obtain ⟨tp, p, hv⟩ := hE.rng
    exact (Tryz.strconv_Atoi_range_var s hs hq tp p w hv).mono fun e w' ⟨N, he, _, _, hb⟩ => ⟨_, _, he, hb⟩

theorem below_grown (w : World) (k : Nat) (os : Array Obj) : Below w.heap.size w (Sort.grow (w.drewN k) os) := by
  refine ⟨rfl, rfl, rfl, ?_, fun j hj => ?_⟩
  · show w.heap.size ≤ (w.heap ++ os).size
    rw [Array.size_append]; omega
  · show (w.heap ++ os)[j]? = _
    rw [Array.getElem?_append_left hj]

theorem grown_of {w w' : World} (hb : Below w.heap.size w w') (r : Option Nat) : w.grownBy w' r := ⟨hb.os, hb.tape, hb.output, hb.size, fun k hk _ => hb.block k hk⟩
theorem own_keep {w w' : World} {B T k n : Nat} {v : Value} {xs : List Value} (h : w.ownsRow B T k v n xs) (hb : Below w.heap.size w w') : w'.ownsRow B T k v n xs :=
  h.kept (grown_of hb none) (by cases v.ownBlock <;> simp)

theorem itoa_any (n : Int) (h : -9223372036854775808 ≤ n ∧ n ≤ 9223372036854775807) (w : World) (hE : Env w) :
    Calls Tryz.prog 45 #[.int .i64 n] w fun e w' => e = .returned (.string ⟨(Lib.itoa n).toArray⟩) ∧ Below w.heap.size w w' :=
  (Tryz.strconv_Itoa n h.1 h.2 w hE.pow).mono fun e w' ⟨he, k, os, hw⟩ => ⟨he, by rw [hw]; exact below_grown w k os⟩

theorem mk_toList (l : List UInt8) : (⟨l.toArray⟩ : ByteArray).toList = l := by
  rw [ByteArray.toList_eq]

theorem take_filterMap {α β : Type} {f : α → Option β} {ws : List α} {k : Nat} {s : α} {v : β} (hs : ws[k]? = some s) (hv : f s = some v) : (ws.take (k + 1)).filterMap f = (ws.take k).filterMap f ++ [v] := by
  rw [List.take_add_one, hs, List.filterMap_append]
  simp [hv]

theorem Tryz.info3 : (Tryz.prog.info? 3).map (fun i => (i.zero, i.size, i.bytes)) = some (some (.int .i64 0), 1, 8) := by kernel_rfl

theorem str_at {w : World} {a : Option Addr} {ws : List ByteArray} {k : Nat} (h : Reads w a (ws.map Value.string)) (hk : k < ws.length) : ∃ b off, a = some ⟨b, off, none⟩ ∧ ∀ j (hj : j < ws.length), w.cell? ⟨b, off + j, none⟩ = some (.string ws[j]) := by
  rcases h with h | ⟨b, off, rfl, h⟩
  · have : ws = [] := by simpa using h
    subst this
    simp at hk
  · exact ⟨b, off, rfl, fun j hj => h j _ (by rw [List.getElem?_map, List.getElem?_eq_getElem hj]; rfl)⟩

set_option maxRecDepth 100000 in
set_option maxHeartbeats 2000000 in
theorem nums_any (ws : List ByteArray) (a : Option Addr) (cap n : Nat) (hn : ws.length = n) (hbig : n ≤ 1000000000) (hsz : ∀ s ∈ ws, s.size ≤ 281474976710656) (w : World) (hr : Reads w a (ws.map Value.string)) (hE : Env w) :
    Calls Tryz.prog 50 #[.slice a n cap] w fun e w' => ∃ v ok vs, e = .returned (.tuple #[v, .bool ok]) ∧ ((ok = true ∧ numsL ws = some vs) ∨ (ok = false ∧ numsL ws = none ∧ vs = [])) ∧ w'.ownsRow w.heap.size 3 1 v vs.length (iV vs) ∧ Below w.heap.size w w' := by
  obtain ⟨i0, hi, hz0, hz1, hz2⟩ := info_parts Tryz.info3
  go_enter Tryz.func50, Tryz.ntmps50
  go_wp2
  go_loopw [4, 11] (fun o i wr => Below w.heap.size w wr ∧ ∃ k : Nat, k ≤ n ∧ i = .int .i64 (k : Nat) ∧ ((ws.take k).filterMap num).length = k ∧ wr.ownsRow w.heap.size 3 1 o k (iV ((ws.take k).filterMap num)) ∧ Hid (∀ s ∈ ws.take k, (num s).isSome = true)) (fun _ i _ => n - (intOf i).toNat)
  case atStart => exact ⟨Below.refl _ _, 0, by omega, rfl, by simp, by simpa [iV] using World.ownsRow_nil w _ 3 1, fun s hs => by simp at hs⟩
  case round =>
    obtain ⟨hbw, k, hk, rfl, hlen, ho, hh⟩ := hrel
    by_cases hlt : k < n
    · have hkl : k < ws.length := by omega
      obtain ⟨b, off, rfl, hcs⟩ := str_at hr hkl
      have hc : wr.cell? ⟨b, off + k, none⟩ = some (.string ws[k]) := keep_cell (hcs k hkl) hbw
      have hws : ws[k]? = some ws[k] := List.getElem?_eq_getElem hkl
      have hs1 : ws[k].size ≤ 281474976710656 := hsz _ (List.getElem_mem _)
      have hm : ws[k] ∈ ws := List.getElem_mem _
      have hErr := hE.below hbw
      have hlt' : (k : Int) < (n : Int) := by omega
      have hszw := hbw.size
      generalize ws[k] = s at hc hws hs1 hm
      clear hcs
      have HM := hide hm
      have HW := hide hws
      have HB := hide hbw
      clear hm hws
      by_cases hok : ∃ v, Lib.atoiAll s.data.toList = .ok v
      · obtain ⟨v, hv⟩ := hok
        have hvb := Lib.atoiAll_bounds hv
        have C1 := atoi_ok s hs1 v hv wr
        have hnum : num s = if Lib.itoa v = s.data.toList then some v else none := by unfold num; rw [hv]
        have HV := hide hnum
        clear hv hnum hs1
        by_cases heq : Lib.itoa v = s.data.toList
        · have hq : ((⟨(Lib.itoa v).toArray⟩ : ByteArray).toList == s.toList) = true := by rw [mk_toList, heq, ByteArray.toList_eq]; simp
          have hv2 := hide (show num s = some v by rw [HV.out, if_pos heq])
          have HQ := hide heq
          clear heq
          have C2 := fun w hE => itoa_any v hvb w hE
          generalize (⟨(Lib.itoa v).toArray⟩ : ByteArray) = t at C2 hq
          go_wp2_with (first
            | (go_at_call 64; go_must (refine C1.mono ?_; rintro e w1 ⟨rfl, hb1⟩; have ho1 := own_keep ho hb1; have hs1 := hb1.size))
            | (go_at_call 45; go_must (refine (C2 _ (hErr.below hb1)).mono ?_; rintro e w2 ⟨rfl, hb2⟩; have ho2 := own_keep ho1 hb2; have hs2 := hb2.size))
            | (at_builtin; go_must (refine wpList_append_own _ rfl (.tmp 28) (.tmp 30) 23 rfl w.heap.size 3 i0 (.int .i64 0) 1 8 Tryz.underlying23 hi hz0 hz1 hz2 rfl (by decide) u4 _ _ rfl (ho2.alloc _) ⟨w2.heap.size, 0, none⟩ 1 1 [.int .i64 v] rfl rfl (cell_one_new _ _ _) (by simp [Value.oneCell']) (by unfold maxLen; omega) (by omega) (by simp; omega) ?_; intro v2 w3 ho3 hg3 _)))
          have hb3 : Below w.heap.size w w3 := (((HB.out.trans (hb1.mono hszw)).trans (hb2.mono (by omega))).alloc (by omega) _).grown hg3 (by simp; omega) (fun q hq => (ho2.lt q hq).1)
          have e1 := take_filterMap HW.out hv2.out
          go_roundw
          case rel =>
            refine ⟨hb3, k + 1, by omega, by go_num, by rw [e1]; simp [hlen], by rw [e1]; simpa [iV] using ho3, fun x hx => ?_⟩
            rw [List.take_add_one, HW.out] at hx
            rcases List.mem_append.1 hx with h | h
            · exact hh.out x h
            · simp only [Option.toList_some, List.mem_singleton] at h
              rw [h, hv2.out]; rfl
          case measure => simp [intOf]; omega
        · have hq : ((⟨(Lib.itoa v).toArray⟩ : ByteArray).toList == s.toList) = false := by rw [mk_toList, ByteArray.toList_eq]; simpa using heq
          have HN := hide (show numsL ws = none from by
            unfold numsL
            rw [if_neg]
            intro hall
            have := hall s HM.out
            rw [HV.out, if_neg heq] at this
            cases this)
          clear heq
          have C2 := fun w hE => itoa_any v hvb w hE
          generalize (⟨(Lib.itoa v).toArray⟩ : ByteArray) = t at C2 hq
          go_wp2_with (first
            | (go_at_call 64; go_must (refine C1.mono ?_; rintro e w1 ⟨rfl, hb1⟩))
            | (go_at_call 45; go_must (refine (C2 _ (hErr.below hb1)).mono ?_; rintro e w2 ⟨rfl, hb2⟩)))
          go_ret2
          have hs1 := hb1.size
          exact ⟨_, _, [], rfl, .inr ⟨rfl, HN.out, rfl⟩, World.ownsRow_nil _ _ 3 1, (HB.out.trans (hb1.mono hszw)).trans (hb2.mono (by omega))⟩
      · have C1 := atoi_no s hs1 (fun v hv => hok ⟨v, hv⟩) wr hErr
        have HN := hide (show numsL ws = none from by
          unfold numsL
          rw [if_neg]
          intro hall
          have := hall s HM.out
          unfold num at this
          cases hq : Lib.atoiAll s.data.toList with
          | ok v => exact hok ⟨v, hq⟩
          | «syntax» => rw [hq] at this; cases this
          | range => rw [hq] at this; cases this)
        clear hok
        go_wp2_with (go_at_call 64; go_must (refine C1.mono ?_; rintro e w1 ⟨x, p, rfl, hb1⟩))
        go_ret2
        exact ⟨_, _, [], rfl, .inr ⟨rfl, HN.out, rfl⟩, World.ownsRow_nil _ _ 3 1, HB.out.trans (hb1.mono hszw)⟩
    · have hkn : k = n := by omega
      subst hkn
      have HO := hide (show numsL ws = some (ws.filterMap num) ∧ (ws.filterMap num).length = k ∧ wr.ownsRow w.heap.size 3 1 u4 k (iV (ws.filterMap num)) from by
        have h1 := hh.out
        rw [List.take_of_length_le (by omega)] at h1 ho hlen
        exact ⟨by unfold numsL; rw [if_pos h1], hlen, ho⟩)
      clear hlen ho hh
      go_wp2
      go_ret2
      exact ⟨_, _, _, rfl, .inl ⟨rfl, HO.out.1⟩, by rw [HO.out.2.1]; exact HO.out.2.2, hbw⟩
end Go.Proofs.YtfnloomcianbiaaGreatDoor
