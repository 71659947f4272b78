/- The walk of CrcLinear. -/
import Derived.Test.YtojpdokkenghbaaDoorTurnW
import Derived.Test.YtojpdokkenghbaaDoorInv
import Derived.Deep.CutRange
namespace Go.Proofs.YtojpdokkenghbaaDoor
open Go.RowKit Go.ChangeShapes Go.WideShapes Go.ChangeAt Go.Deep

/-- What is known of an argument that is a list of bytes. -/
structure Arg (w : World) (a : Option Addr) (l c : Nat) (b : List Nat) : Prop where
  len : b.length = l
  byt : Byt b
  lec : l ≤ c
  max : c ≤ maxLen
  nil : a = none → l = 0 ∧ c = 0
  rd : Reads w a (bV b)

theorem made_zeros (n : Nat) : (madeCells (Value.int IntKind.u8 0).cells (n * 1)).toList = bV (List.replicate n 0) := by
  simp [madeCells, bV, Value.cells, Nat.mod_one, List.map_const']

theorem cell_put {w : World} {b o g k : Nat} {u v : Value} (h : w.cell? ⟨b, o, none⟩ = some u) (hne : ¬ b = g) : (w.setCell ⟨g, k, none⟩ v).drew.cell? ⟨b, o, none⟩ = some u := by
  have := World.cell?_of_block (w := w) (w' := w.setCell ⟨g, k, none⟩ v) (a := ⟨b, o, none⟩) (Below.heap_setCell _ _ _ _ hne)
  rw [h] at this
  simpa using this

theorem i64_xor_nat (a b : Nat) (ha : a < 4294967296) (hb : b < 4294967296) : bits .xor .i64 (a : Int) (b : Int) = ((a ^^^ b : Nat) : Int) := by
  have hx : a ^^^ b < 2 ^ 32 := Nat.xor_lt_two_pow (by omega) (by omega)
  have h1 : ∀ c : Nat, c < 4294967296 → (BitVec.ofInt 64 (c : Int)).toNat = c := fun c hc => by
    rw [BitVec.ofInt_natCast, BitVec.toNat_ofNat]; exact Nat.mod_eq_of_lt (by omega)
  show IntKind.i64.wrap ((BitVec.ofInt 64 (a : Int) ^^^ BitVec.ofInt 64 (b : Int)).toNat : Int) = _
  rw [BitVec.toNat_xor, h1 a ha, h1 b hb, IntKind.wrap_i64]
  omega

/-- A row of one text lies there. -/
def RowAt (w : World) (t s : Value) : Prop := ∃ g, t = .slice (some ⟨g, 0, none⟩) 1 1 ∧ w.cell? ⟨g, 0, none⟩ = some s
theorem RowAt.keep {w w' : World} {t s : Value} (h : RowAt w t s) (hb : Below w.heap.size w w') : RowAt w' t s := by
  obtain ⟨g, h1, h2⟩ := h
  exact ⟨g, h1, keep_cell h2 hb⟩
theorem row_new (w : World) (s : Value) : RowAt (w.alloc (.cells #[s] 24)) (.slice (some ⟨w.heap.size, 0, none⟩) 1 1) s :=
  ⟨_, rfl, by rw [World.cell?_alloc_at _ _ _ _ rfl]; rfl⟩

/-- crc.Sum of one list of bytes, the row of one there already. -/
theorem sum_row (w : World) (g : Nat) (a : Option Addr) (len cap : Nat) (bs : List Nat) (hl : bs.length = len) (hlen : len ≤ cap) (hcap : cap ≤ maxLen) (hn : a = none → len = 0 ∧ cap = 0) (hB : Byt bs) (hr : Reads w a (bV bs)) (hc : w.cell? ⟨g, 0, none⟩ = some (.slice a len cap)) (hT : Tab w) :
    Calls Tryd.prog 10 #[.slice (some ⟨g, 0, none⟩) 1 1] w fun e w' => e = .returned (.int .i64 (crcSum bs : Nat)) ∧ w' = w := by
  have := sum_any (some ⟨g, 0, none⟩) 1 1 [⟨a, len, cap, bs⟩] w rfl (by omega) (fun t ht => by
    simp at ht; subst ht
    exact ⟨hl, hB, ⟨hlen, hcap⟩, hn, hr⟩) (.inr ⟨g, 0, rfl, fun j u hu => by
      cases j with
      | zero => simp [sV, Txt.val] at hu; subst hu; simpa using hc
      | succ j => simp [sV] at hu⟩) hT
  have e : flat [⟨a, len, cap, bs⟩] = bs := by simp [flat]
  rw [e] at this
  exact this

theorem lin_sum (a b c zs : List Nat) (n : Nat) (ha : n ≤ a.length) (hb : n ≤ b.length) (hc : n ≤ c.length) (hz : zs.length = n) (h : ∀ j, j < n → zs[j]? = some (a.getD j 0 ^^^ b.getD j 0 ^^^ c.getD j 0)) :
    crcSum zs = crcSum (a.take n) ^^^ crcSum (b.take n) ^^^ crcSum (c.take n) := by
  have e : zs = List.zipWith (· ^^^ ·) (List.zipWith (· ^^^ ·) (a.take n) (b.take n)) (c.take n) := by
    apply List.ext_getElem?
    intro j
    by_cases hj : j < n
    · rw [h j hj]
      have h1 : j < a.length := by omega
      have h2 : j < b.length := by omega
      have h3 : j < c.length := by omega
      simp [List.getElem?_zipWith, hj, h1, h2, h3, List.getD]
    · rw [List.getElem?_eq_none (by omega), List.getElem?_eq_none (by simp; omega)]
  refine crc_linear (a.take n) (b.take n) (c.take n) zs (by simp; omega) (by simp; omega) (by simp; omega) ?_
  rw [e, val_xor _ _ (by simp; omega), val_xor _ _ (by simp; omega)]

theorem own_reads {w : World} {B g n cap : Nat} {zs : List Nat} (ho : w.ownsRow B 5 1 (.slice (some ⟨g, 0, none⟩) n cap) n (bV zs)) : Reads w (some ⟨g, 0, none⟩) (bV zs) := by
  obtain ⟨g', cap', e, _, _, _, hr⟩ := reads_own ho (by simp)
  simp at e
  obtain ⟨rfl, _, rfl⟩ := e
  exact hr

theorem puts14 (A : Act) : A = ((((((((((((A.put (some 58) (self A 58)).put (some 59) (self A 59)).put (some 63) (self A 63)).put (some 64) (self A 64)).put (some 68) (self A 68)).put (some 69) (self A 69)).put (some 70) (self A 70)).put (some 74) (self A 74)).put (some 75) (self A 75)).put (some 76) (self A 76)).put (some 77) (self A 77)).put (some 6) (self A 6)) := by simp only [put_self]

namespace crcLinear
set_option maxRecDepth 100000 in
set_option maxHeartbeats 4000000 in
theorem walk1 (a0 : Option Addr) (l0 c0 : Nat) (x0 : List Nat) (a1 : Option Addr) (l1 c1 : Nat) (x1 : List Nat) (a2 : Option Addr) (l2 c2 : Nat) (x2 : List Nat) (w : World) (hT : Tab w)
    (H0 : Arg w a0 l0 c0 x0) (H1 : Arg w a1 l1 c1 x1) (H2 : Arg w a2 l2 c2 x2) :
    Calls Tryd.prog 6 #[.slice a0 l0 c0, .slice a1 l1 c1, .slice a2 l2 c2] w fun e w' => e = .returned (.bool true) ∧ Below w.heap.size w w' := by
  obtain ⟨i0, hi, hz0, hz1, hz2⟩ := info_parts Tryd.info5
  replace H0 := hide H0
  replace H1 := hide H1
  replace H2 := hide H2
  go_enter Tryd.func6, Tryd.ntmps6
  go_upto_if 17 with (first | (go_at_call 8; go_must (refine (alive_any _ hT).mono ?_; rintro e w1 ⟨rfl, hb1⟩)))
  go_cut [8] from 11 (fun v wc => wc = w1 ∧ v = .int .i64 (min l0 l1 : Nat))
  case first =>
    by_cases h : l1 < l0
    · go_wp2
      go_meet
      case rel => exact ⟨rfl, by rw [Nat.min_eq_right (by omega)]⟩
    · go_wp2
      go_meet
      case rel => exact ⟨rfl, by rw [Nat.min_eq_left (by omega)]⟩
  case rest =>
    obtain ⟨rfl, rfl⟩ := hcut
    go_upto_if 23 with fail
    go_cut [8] from 11 (fun v wd => wd = wc ∧ v = .int .i64 (min (min l0 l1) l2 : Nat))
    case first =>
      by_cases h : l2 < min l0 l1
      · go_wp2
        go_meet
        case rel => exact ⟨rfl, by rw [Nat.min_eq_right (a := min l0 l1) (by omega)]⟩
      · go_wp2
        go_meet
        case rel => exact ⟨rfl, by rw [Nat.min_eq_left (a := min l0 l1) (by omega)]⟩
    case rest =>
      obtain ⟨rfl, rfl⟩ := hcut
      have hn0 : min (min l0 l1) l2 ≤ l0 := by omega
      have hn1 : min (min l0 l1) l2 ≤ l1 := by omega
      have hn2 : min (min l0 l1) l2 ≤ l2 := by omega
      generalize min (min l0 l1) l2 = n at hn0 hn1 hn2 ⊢
      by_cases h2000 : n ≤ 2000
      · go_wp2_with (first | (at_make; go_must (refine wpList_make_full _ rfl (.tmp 33) (.tmp 33) 24 rfl wc.heap.size 5 i0 (.int .u8 0) 1 Tryd.underlying24 hi hz0 hz1 .i64 .i64 _ _ n rfl rfl rfl rfl (by rw [hz2]; omega) (by unfold maxLen; omega) (Nat.le_refl _) ?_; intro w3 ho3 hg3)))
        have hb3 : Below w.heap.size w w3 := hb1.grown hg3 hb1.size (fun q hq => by cases hq)
        rw [made_zeros] at ho3
        obtain ⟨g, hg⟩ : ∃ g, g = wc.heap.size := ⟨_, rfl⟩
        rw [← hg] at ho3 ⊢
        have hgw : w.heap.size ≤ g := by have := hb1.size; omega
        clear hg
        go_loopw [10] (fun i wr => ∃ (k : Nat) (zs : List Nat), k ≤ n ∧ i = .int .i64 (k : Nat) ∧ Hid (Byt zs) ∧ Hid (zs.length = n) ∧ Hid (∀ j, j < k → zs[j]? = some (x0.getD j 0 ^^^ x1.getD j 0 ^^^ x2.getD j 0)) ∧ wr.ownsRow g 5 1 (.slice (some ⟨g, 0, none⟩) n n) n (bV zs) ∧ Below w.heap.size w wr) (fun i _ => n - (intOf i).toNat)
        case atStart => exact ⟨0, List.replicate n 0, Nat.zero_le _, rfl, hide (fun x hx => by rw [List.eq_of_mem_replicate hx]; omega), hide (by simp), hide (fun j hj => by omega), ho3, hb3⟩
        case round =>
          obtain ⟨k, zs, hk, rfl, hBz, hlz, hvz, ho, hbel⟩ := hrel
          have hsz := hbel.size
          by_cases hlt : k < n
          · have hk0 : k < x0.length := by rw [H0.out.len]; omega
            have hk1 : k < x1.length := by rw [H1.out.len]; omega
            have hk2 : k < x2.length := by rw [H2.out.len]; omega
            obtain ⟨b0, o0, ha0, hcw0⟩ := reads_byte H0.out.rd hk0
            have hce0 := keep_cell hcw0 hbel
            have hne0 : ¬ b0 = g := by have h := cell_some_lt hcw0; simp only at h; omega
            obtain ⟨b1, o1, ha1, hcw1⟩ := reads_byte H1.out.rd hk1
            have hce1 := keep_cell hcw1 hbel
            have hne1 : ¬ b1 = g := by have h := cell_some_lt hcw1; simp only at h; omega
            obtain ⟨b2, o2, ha2, hcw2⟩ := reads_byte H2.out.rd hk2
            have hce2 := keep_cell hcw2 hbel
            have hne2 : ¬ b2 = g := by have h := cell_some_lt hcw2; simp only at h; omega
            subst ha0; subst ha1; subst ha2
            have hx0 := H0.out.byt _ (List.getElem_mem hk0)
            have hx1 := H1.out.byt _ (List.getElem_mem hk1)
            have hx2 := H2.out.byt _ (List.getElem_mem hk2)
            have HG := hide (show x0.getD k 0 ^^^ x1.getD k 0 ^^^ x2.getD k 0 = x0[k] ^^^ x1[k] ^^^ x2[k] by simp [List.getD, hk0, hk1, hk2])
            obtain ⟨y0, hy0⟩ : ∃ y, y = x0[k] := ⟨_, rfl⟩
            obtain ⟨y1, hy1⟩ : ∃ y, y = x1[k] := ⟨_, rfl⟩
            obtain ⟨y2, hy2⟩ : ∃ y, y = x2[k] := ⟨_, rfl⟩
            rw [← hy0] at hce0 hx0 HG
            rw [← hy1] at hce1 hx1 HG
            rw [← hy2] at hce2 hx2 HG
            clear hy0 hy1 hy2 hk0 hk1 hk2 hcw0 hcw1 hcw2
            have e1 := u8_xor_nat y0 y1 hx0 hx1
            have h01 : y0 ^^^ y1 < 256 := Nat.xor_lt_two_pow (n := 8) hx0 hx1
            have e2 := u8_xor_nat (y0 ^^^ y1) y2 h01 hx2
            have h012 : y0 ^^^ y1 ^^^ y2 < 256 := Nat.xor_lt_two_pow (n := 8) h01 hx2
            have hfr := ho.frozenAt k
            have hI : (0 : Int) ≤ (k : Int) := by omega
            have hJ : (k : Int) < (n : Int) := by omega
            have hJ0 : (k : Int) < (l0 : Int) := by omega
            have hJ1 : (k : Int) < (l1 : Int) := by omega
            have hJ2 : (k : Int) < (l2 : Int) := by omega
            have hcz := own_cell ho (j := k) (by rw [hlz.out]; exact hlt)
            obtain ⟨z, hz⟩ : ∃ z, z = zs[k]'(by rw [hlz.out]; exact hlt) := ⟨_, rfl⟩
            rw [← hz] at hcz
            clear hz
            go_upto_region 13 with fail
            go_region_held3 (fun w' => w'.frozen? ⟨g, k, none⟩ = false ∧ w'.cell? ⟨b0, o0 + k, none⟩ = some (.int .u8 (y0 : Nat)) ∧ w'.cell? ⟨b1, o1 + k, none⟩ = some (.int .u8 (y1 : Nat)) ∧ w'.cell? ⟨b2, o2 + k, none⟩ = some (.int .u8 (y2 : Nat))) (first | (exact ⟨by simpa using hfr, cell_put hce0 hne0, cell_put hce1 hne1, cell_put hce2 hne2⟩) | go_keep) (fail)
            have hput := own_put ho k (y0 ^^^ y1 ^^^ y2)
            have HP := hide hput
            have HZ := hide (show Below w.heap.size w (wr.setCell ⟨g, k, none⟩ (.int .u8 (y0 ^^^ y1 ^^^ y2 : Nat))) from hbel.grown hput.2 hsz (fun q hq => by cases hq; exact hgw))
            clear hput
            go_wp2
            go_roundw
            case rel => exact ⟨k + 1, zs.set k (y0 ^^^ y1 ^^^ y2), by omega, by go_num, hide (fun z hz => by
                rcases List.mem_or_eq_of_mem_set hz with h | h
                · exact hBz.out z h
                · omega), hide (by rw [List.length_set]; exact hlz.out), hide (fun j hj => by
                rw [List.getElem?_set]
                by_cases hjk : k = j
                · subst hjk
                  rw [if_pos rfl, if_pos (by rw [hlz.out]; exact hlt), HG.out]
                · rw [if_neg hjk]
                  exact hvz.out j (by omega)), own_drew HP.out.1, HZ.out.drew⟩
            case measure => simp [intOf]; omega
          · have hkn : k = n := by omega
            subst hkn
            have hc0 : k ≤ c0 := Nat.le_trans hn0 H0.out.lec
            have hc1 : k ≤ c1 := Nat.le_trans hn1 H1.out.lec
            have hc2 : k ≤ c2 := Nat.le_trans hn2 H2.out.lec
            have hlin : crcSum zs = crcSum (x0.take k) ^^^ crcSum (x1.take k) ^^^ crcSum (x2.take k) := lin_sum x0 x1 x2 zs k (by rw [H0.out.len]; exact hn0) (by rw [H1.out.len]; exact hn1) (by rw [H2.out.len]; exact hn2) hlz.out hvz.out
            have l0' := crcSum_lt (x0.take k) (H0.out.byt.take k)
            have l1' := crcSum_lt (x1.take k) (H1.out.byt.take k)
            have l2' := crcSum_lt (x2.take k) (H2.out.byt.take k)
            have hTr := hT.below hbel
            have C2 := fun (w' : World) (q : Nat) (hb : Below wr.heap.size wr w') (hc : w'.cell? ⟨q, 0, none⟩ = some (.slice (some ⟨g, 0, none⟩) k k)) => sum_row w' q (some ⟨g, 0, none⟩) k k zs hlz.out (Nat.le_refl _) (by unfold maxLen; omega) (fun h => by cases h) hBz.out ((own_reads ho).below hb) hc (hTr.below hb)
            have C7 := fun (w' : World) (q : Nat) (hb : Below wr.heap.size wr w') (hc : w'.cell? ⟨q, 0, none⟩ = some (.slice a0 k c0)) => sum_row w' q a0 k c0 (x0.take k) (by rw [List.length_take, H0.out.len]; omega) hc0 H0.out.max (fun h => by have := H0.out.nil h; omega) (H0.out.byt.take k) (((H0.out.rd.below hbel).take k).below hb) hc (hTr.below hb)
            have C12 := fun (w' : World) (q : Nat) (hb : Below wr.heap.size wr w') (hc : w'.cell? ⟨q, 0, none⟩ = some (.slice a1 k c1)) => sum_row w' q a1 k c1 (x1.take k) (by rw [List.length_take, H1.out.len]; omega) hc1 H1.out.max (fun h => by have := H1.out.nil h; omega) (H1.out.byt.take k) (((H1.out.rd.below hbel).take k).below hb) hc (hTr.below hb)
            have C18 := fun (w' : World) (q : Nat) (hb : Below wr.heap.size wr w') (hc : w'.cell? ⟨q, 0, none⟩ = some (.slice a2 k c2)) => sum_row w' q a2 k c2 (x2.take k) (by rw [List.length_take, H2.out.len]; omega) hc2 H2.out.max (fun h => by have := H2.out.nil h; omega) (H2.out.byt.take k) (((H2.out.rd.below hbel).take k).below hb) hc (hTr.below hb)
            generalize crcSum zs = X at hlin C2
            generalize crcSum (x0.take k) = S0 at hlin C7 l0'
            generalize crcSum (x1.take k) = S1 at hlin C12 l1'
            generalize crcSum (x2.take k) = S2 at hlin C18 l2'
            have e1 := i64_xor_nat S0 S1 l0' l1'
            have l01 : S0 ^^^ S1 < 4294967296 := Nat.xor_lt_two_pow (n := 32) l0' l1'
            have e2 := i64_xor_nat (S0 ^^^ S1) S2 l01 l2'
            subst hlin
            replace C2 := hide C2
            replace C7 := hide C7
            replace C12 := hide C12
            replace C18 := hide C18
            go_upto_region 14 with fail
            refine wp_region_noPanic ?_
            refine wp_region_held_drew (S := fun _ => True) (by kernel_rfl) trivial (fun hHeld => ?_)
            refine takeD (i := 0) (d := some 57) (v := ?_) rfl rfl (by kernel_rfl) (by kernel_rfl) (by kernel_rfl) (fun _ _ _ h => h) (Or.inl ⟨by rfl, ?_⟩) (by assumption) ?_
            rotate_left
            · intro w hSw
              go_simp
              try (with_reducible rfl)
            try simp only [Act.put, List.setIfInBounds_toArray, List.set_cons_zero, List.set_cons_succ]
            refine takeD (i := 3) (d := some 60) (v := ?_) rfl rfl (by kernel_rfl) (by kernel_rfl) (by kernel_rfl) (fun _ _ _ h => h) (Or.inl ⟨by rfl, ?_⟩) (by assumption) ?_
            rotate_left
            · intro w hSw
              go_simp
              try (with_reducible rfl)
            try simp only [Act.put, List.setIfInBounds_toArray, List.set_cons_zero, List.set_cons_succ]
            refine takeD (i := 4) (d := some 61) (v := ?_) rfl rfl (by kernel_rfl) (by kernel_rfl) (by kernel_rfl) (fun _ _ _ h => h) (Or.inl ⟨by rfl, ?_⟩) (by assumption) ?_
            rotate_left
            · intro w hSw
              go_simp
              try (with_reducible rfl)
            try simp only [Act.put, List.setIfInBounds_toArray, List.set_cons_zero, List.set_cons_succ]
            refine takeD (i := 5) (d := some 62) (v := ?_) rfl rfl (by kernel_rfl) (by kernel_rfl) (by kernel_rfl) (fun _ _ _ h => h) (Or.inl ⟨by rfl, ?_⟩) (by assumption) ?_
            rotate_left
            · intro w hSw
              go_simp
              try (with_reducible rfl)
            try simp only [Act.put, List.setIfInBounds_toArray, List.set_cons_zero, List.set_cons_succ]
            refine takeD (i := 8) (d := some 65) (v := ?_) rfl rfl (by kernel_rfl) (by kernel_rfl) (by kernel_rfl) (fun _ _ _ h => h) (Or.inl ⟨by rfl, ?_⟩) (by assumption) ?_
            rotate_left
            · intro w hSw
              go_simp
              try (with_reducible rfl)
            try simp only [Act.put, List.setIfInBounds_toArray, List.set_cons_zero, List.set_cons_succ]
            refine takeD (i := 9) (d := some 66) (v := ?_) rfl rfl (by kernel_rfl) (by kernel_rfl) (by kernel_rfl) (fun _ _ _ h => h) (Or.inl ⟨by rfl, ?_⟩) (by assumption) ?_
            rotate_left
            · intro w hSw
              go_simp
              try (with_reducible rfl)
            try simp only [Act.put, List.setIfInBounds_toArray, List.set_cons_zero, List.set_cons_succ]
            refine takeD (i := 10) (d := some 67) (v := ?_) rfl rfl (by kernel_rfl) (by kernel_rfl) (by kernel_rfl) (fun _ _ _ h => h) (Or.inl ⟨by rfl, ?_⟩) (by assumption) ?_
            rotate_left
            · intro w hSw
              go_simp
              try (with_reducible rfl)
            try simp only [Act.put, List.setIfInBounds_toArray, List.set_cons_zero, List.set_cons_succ]
            refine takeD (i := 14) (d := some 71) (v := ?_) rfl rfl (by kernel_rfl) (by kernel_rfl) (by kernel_rfl) (fun _ _ _ h => h) (Or.inl ⟨by rfl, ?_⟩) (by assumption) ?_
            rotate_left
            · intro w hSw
              go_simp
              try (with_reducible rfl)
            try simp only [Act.put, List.setIfInBounds_toArray, List.set_cons_zero, List.set_cons_succ]
            refine takeD (i := 15) (d := some 72) (v := ?_) rfl rfl (by kernel_rfl) (by kernel_rfl) (by kernel_rfl) (fun _ _ _ h => h) (Or.inl ⟨by rfl, ?_⟩) (by assumption) ?_
            rotate_left
            · intro w hSw
              go_simp
              try (with_reducible rfl)
            try simp only [Act.put, List.setIfInBounds_toArray, List.set_cons_zero, List.set_cons_succ]
            refine takeD (i := 16) (d := some 73) (v := ?_) rfl rfl (by kernel_rfl) (by kernel_rfl) (by kernel_rfl) (fun _ _ _ h => h) (Or.inl ⟨by rfl, ?_⟩) (by assumption) ?_
            rotate_left
            · intro w hSw
              go_simp
              try (with_reducible rfl)
            try simp only [Act.put, List.setIfInBounds_toArray, List.set_cons_zero, List.set_cons_succ]
            refine wpAnyH_from (fun A listed a w' => ∃ (L1 L2 L6 L7 L11 L12 L13 L17 L18 L19 L20 L21 : Bool) (t1 t2 t6 t7 t11 t12 t13 t17 t18 t19 t20 t21 : Value), listed = #[true, L1, L2, true, true, true, L6, L7, true, true, true, L11, L12, L13, true, true, true, L17, L18, L19, L20, L21] ∧ a = ((((((((((((A.put (some 58) t1).put (some 59) t2).put (some 63) t6).put (some 64) t7).put (some 68) t11).put (some 69) t12).put (some 70) t13).put (some 74) t17).put (some 75) t18).put (some 76) t19).put (some 77) t20).put (some 6) t21) ∧ Below wr.heap.size wr w' ∧ (L1 = true → RowAt w' t1 (.slice (some ⟨g, 0, none⟩) k k)) ∧ (L2 = true → t2 = .int .i64 (S0 ^^^ S1 ^^^ S2 : Nat)) ∧ (L6 = true → RowAt w' t6 (.slice a0 k c0)) ∧ (L7 = true → t7 = .int .i64 (S0 : Nat)) ∧ (L11 = true → RowAt w' t11 (.slice a1 k c1)) ∧ (L12 = true → t12 = .int .i64 (S1 : Nat)) ∧ (L13 = true → t13 = .int .i64 (S0 ^^^ S1 : Nat)) ∧ (L17 = true → RowAt w' t17 (.slice a2 k c2)) ∧ (L18 = true → t18 = .int .i64 (S2 : Nat)) ∧ (L19 = true → t19 = .int .i64 (S0 ^^^ S1 ^^^ S2 : Nat)) ∧ (L20 = true → t20 = .bool true) ∧ (L21 = true → t21 = .bool true)) (by kernel_rfl) (by decide) ⟨false, false, false, false, false, false, false, false, false, false, false, false, _, _, _, _, _, _, _, _, _, _, _, _, rfl, puts14 _, (Below.refl _ _).drew, (fun h => by cases h), (fun h => by cases h), (fun h => by cases h), (fun h => by cases h), (fun h => by cases h), (fun h => by cases h), (fun h => by cases h), (fun h => by cases h), (fun h => by cases h), (fun h => by cases h), (fun h => by cases h), (fun h => by cases h)⟩ ?_ ?_
            · rintro listed a w' ⟨L1, L2, L6, L7, L11, L12, L13, L17, L18, L19, L20, L21, t1, t2, t6, t7, t11, t12, t13, t17, t18, t19, t20, t21, rfl, rfl, hbw, v1, v2, v6, v7, v11, v12, v13, v17, v18, v19, v20, v21⟩ i hi
              have hlt : i < 22 := ready_lt hi
              obtain rfl | rfl | rfl | rfl | rfl | rfl | rfl | rfl | rfl | rfl | rfl | rfl | rfl | rfl | rfl | rfl | rfl | rfl | rfl | rfl | rfl | rfl : i = 0 ∨ i = 1 ∨ i = 2 ∨ i = 3 ∨ i = 4 ∨ i = 5 ∨ i = 6 ∨ i = 7 ∨ i = 8 ∨ i = 9 ∨ i = 10 ∨ i = 11 ∨ i = 12 ∨ i = 13 ∨ i = 14 ∨ i = 15 ∨ i = 16 ∨ i = 17 ∨ i = 18 ∨ i = 19 ∨ i = 20 ∨ i = 21 := by omega
              · -- 0
                exact absurd (ready_un hi) (by simp)
              · -- 1
                refine wpOp_hid rfl (fun K hK => ?_)
                simp only [Act.put, List.setIfInBounds_toArray, List.set_cons_zero, List.set_cons_succ]
                go_simp
                have hkp : Below w'.heap.size w' (w'.alloc (.cells #[.slice (some ⟨g, 0, none⟩) k k] 24)) := (Below.refl _ _).alloc (Nat.le_refl _) _
                exact hK.out _ _ ⟨true, L2, L6, L7, L11, L12, L13, L17, L18, L19, L20, L21, .slice (some ⟨w'.heap.size, 0, none⟩) 1 1, t2, t6, t7, t11, t12, t13, t17, t18, t19, t20, t21, rfl, (by simp only [Act.put, List.setIfInBounds_toArray, List.set_cons_zero, List.set_cons_succ]), hbw.trans (hkp.mono hbw.size), fun _ => row_new w' _, v2, fun h => (v6 h).keep hkp, v7, fun h => (v11 h).keep hkp, v12, v13, fun h => (v17 h).keep hkp, v18, v19, v20, v21⟩
              · -- 2
                obtain ⟨q, rfl, hcq⟩ := v1 (ready_dep hi rfl (e := ⟨1, .data⟩) (by simp) rfl)
                refine wpOp_hid rfl (fun K hK => ?_)
                simp only [Act.put, List.setIfInBounds_toArray, List.set_cons_zero, List.set_cons_succ]
                go_simp
                refine (C2.out w' q hbw hcq).mono ?_
                rintro e w4 ⟨rfl, hw4⟩
                subst w4
                go_wp2_with fail
                exact hK.out _ _ ⟨L1, true, L6, L7, L11, L12, L13, L17, L18, L19, L20, L21, .slice (some ⟨q, 0, none⟩) 1 1, .int .i64 (S0 ^^^ S1 ^^^ S2 : Nat), t6, t7, t11, t12, t13, t17, t18, t19, t20, t21, rfl, (by simp only [Act.put, List.setIfInBounds_toArray, List.set_cons_zero, List.set_cons_succ]), hbw, v1, fun _ => rfl, v6, v7, v11, v12, v13, v17, v18, v19, v20, v21⟩
              · -- 3
                exact absurd (ready_un hi) (by simp)
              · -- 4
                exact absurd (ready_un hi) (by simp)
              · -- 5
                exact absurd (ready_un hi) (by simp)
              · -- 6
                refine wpOp_hid rfl (fun K hK => ?_)
                simp only [Act.put, List.setIfInBounds_toArray, List.set_cons_zero, List.set_cons_succ]
                go_simp
                have hkp : Below w'.heap.size w' (w'.alloc (.cells #[.slice a0 k c0] 24)) := (Below.refl _ _).alloc (Nat.le_refl _) _
                exact hK.out _ _ ⟨L1, L2, true, L7, L11, L12, L13, L17, L18, L19, L20, L21, t1, t2, .slice (some ⟨w'.heap.size, 0, none⟩) 1 1, t7, t11, t12, t13, t17, t18, t19, t20, t21, rfl, (by simp only [Act.put, List.setIfInBounds_toArray, List.set_cons_zero, List.set_cons_succ]), hbw.trans (hkp.mono hbw.size), fun h => (v1 h).keep hkp, v2, fun _ => row_new w' _, v7, fun h => (v11 h).keep hkp, v12, v13, fun h => (v17 h).keep hkp, v18, v19, v20, v21⟩
              · -- 7
                obtain ⟨q, rfl, hcq⟩ := v6 (ready_dep hi rfl (e := ⟨6, .data⟩) (by simp) rfl)
                refine wpOp_hid rfl (fun K hK => ?_)
                simp only [Act.put, List.setIfInBounds_toArray, List.set_cons_zero, List.set_cons_succ]
                go_simp
                refine (C7.out w' q hbw hcq).mono ?_
                rintro e w4 ⟨rfl, hw4⟩
                subst w4
                go_wp2_with fail
                exact hK.out _ _ ⟨L1, L2, L6, true, L11, L12, L13, L17, L18, L19, L20, L21, t1, t2, .slice (some ⟨q, 0, none⟩) 1 1, .int .i64 (S0 : Nat), t11, t12, t13, t17, t18, t19, t20, t21, rfl, (by simp only [Act.put, List.setIfInBounds_toArray, List.set_cons_zero, List.set_cons_succ]), hbw, v1, v2, v6, fun _ => rfl, v11, v12, v13, v17, v18, v19, v20, v21⟩
              · -- 8
                exact absurd (ready_un hi) (by simp)
              · -- 9
                exact absurd (ready_un hi) (by simp)
              · -- 10
                exact absurd (ready_un hi) (by simp)
              · -- 11
                refine wpOp_hid rfl (fun K hK => ?_)
                simp only [Act.put, List.setIfInBounds_toArray, List.set_cons_zero, List.set_cons_succ]
                go_simp
                have hkp : Below w'.heap.size w' (w'.alloc (.cells #[.slice a1 k c1] 24)) := (Below.refl _ _).alloc (Nat.le_refl _) _
                exact hK.out _ _ ⟨L1, L2, L6, L7, true, L12, L13, L17, L18, L19, L20, L21, t1, t2, t6, t7, .slice (some ⟨w'.heap.size, 0, none⟩) 1 1, t12, t13, t17, t18, t19, t20, t21, rfl, (by simp only [Act.put, List.setIfInBounds_toArray, List.set_cons_zero, List.set_cons_succ]), hbw.trans (hkp.mono hbw.size), fun h => (v1 h).keep hkp, v2, fun h => (v6 h).keep hkp, v7, fun _ => row_new w' _, v12, v13, fun h => (v17 h).keep hkp, v18, v19, v20, v21⟩
              · -- 12
                obtain ⟨q, rfl, hcq⟩ := v11 (ready_dep hi rfl (e := ⟨11, .data⟩) (by simp) rfl)
                refine wpOp_hid rfl (fun K hK => ?_)
                simp only [Act.put, List.setIfInBounds_toArray, List.set_cons_zero, List.set_cons_succ]
                go_simp
                refine (C12.out w' q hbw hcq).mono ?_
                rintro e w4 ⟨rfl, hw4⟩
                subst w4
                go_wp2_with fail
                exact hK.out _ _ ⟨L1, L2, L6, L7, L11, true, L13, L17, L18, L19, L20, L21, t1, t2, t6, t7, .slice (some ⟨q, 0, none⟩) 1 1, .int .i64 (S1 : Nat), t13, t17, t18, t19, t20, t21, rfl, (by simp only [Act.put, List.setIfInBounds_toArray, List.set_cons_zero, List.set_cons_succ]), hbw, v1, v2, v6, v7, v11, fun _ => rfl, v13, v17, v18, v19, v20, v21⟩
              · -- 13
                obtain rfl := v7 (ready_dep hi rfl (e := ⟨7, .data⟩) (by simp) rfl)
                obtain rfl := v12 (ready_dep hi rfl (e := ⟨12, .data⟩) (by simp) rfl)
                refine wpOp_hid rfl (fun K hK => ?_)
                simp only [Act.put, List.setIfInBounds_toArray, List.set_cons_zero, List.set_cons_succ]
                go_simp
                exact hK.out _ _ ⟨L1, L2, L6, L7, L11, L12, true, L17, L18, L19, L20, L21, t1, t2, t6, .int .i64 (S0 : Nat), t11, .int .i64 (S1 : Nat), .int .i64 (S0 ^^^ S1 : Nat), t17, t18, t19, t20, t21, rfl, (by simp only [Act.put, List.setIfInBounds_toArray, List.set_cons_zero, List.set_cons_succ]), hbw, v1, v2, v6, v7, v11, v12, fun _ => rfl, v17, v18, v19, v20, v21⟩
              · -- 14
                exact absurd (ready_un hi) (by simp)
              · -- 15
                exact absurd (ready_un hi) (by simp)
              · -- 16
                exact absurd (ready_un hi) (by simp)
              · -- 17
                refine wpOp_hid rfl (fun K hK => ?_)
                simp only [Act.put, List.setIfInBounds_toArray, List.set_cons_zero, List.set_cons_succ]
                go_simp
                have hkp : Below w'.heap.size w' (w'.alloc (.cells #[.slice a2 k c2] 24)) := (Below.refl _ _).alloc (Nat.le_refl _) _
                exact hK.out _ _ ⟨L1, L2, L6, L7, L11, L12, L13, true, L18, L19, L20, L21, t1, t2, t6, t7, t11, t12, t13, .slice (some ⟨w'.heap.size, 0, none⟩) 1 1, t18, t19, t20, t21, rfl, (by simp only [Act.put, List.setIfInBounds_toArray, List.set_cons_zero, List.set_cons_succ]), hbw.trans (hkp.mono hbw.size), fun h => (v1 h).keep hkp, v2, fun h => (v6 h).keep hkp, v7, fun h => (v11 h).keep hkp, v12, v13, fun _ => row_new w' _, v18, v19, v20, v21⟩
              · -- 18
                obtain ⟨q, rfl, hcq⟩ := v17 (ready_dep hi rfl (e := ⟨17, .data⟩) (by simp) rfl)
                refine wpOp_hid rfl (fun K hK => ?_)
                simp only [Act.put, List.setIfInBounds_toArray, List.set_cons_zero, List.set_cons_succ]
                go_simp
                refine (C18.out w' q hbw hcq).mono ?_
                rintro e w4 ⟨rfl, hw4⟩
                subst w4
                go_wp2_with fail
                exact hK.out _ _ ⟨L1, L2, L6, L7, L11, L12, L13, L17, true, L19, L20, L21, t1, t2, t6, t7, t11, t12, t13, .slice (some ⟨q, 0, none⟩) 1 1, .int .i64 (S2 : Nat), t19, t20, t21, rfl, (by simp only [Act.put, List.setIfInBounds_toArray, List.set_cons_zero, List.set_cons_succ]), hbw, v1, v2, v6, v7, v11, v12, v13, v17, fun _ => rfl, v19, v20, v21⟩
              · -- 19
                obtain rfl := v13 (ready_dep hi rfl (e := ⟨13, .data⟩) (by simp) rfl)
                obtain rfl := v18 (ready_dep hi rfl (e := ⟨18, .data⟩) (by simp) rfl)
                refine wpOp_hid rfl (fun K hK => ?_)
                simp only [Act.put, List.setIfInBounds_toArray, List.set_cons_zero, List.set_cons_succ]
                go_simp
                exact hK.out _ _ ⟨L1, L2, L6, L7, L11, L12, L13, L17, L18, true, L20, L21, t1, t2, t6, t7, t11, t12, .int .i64 (S0 ^^^ S1 : Nat), t17, .int .i64 (S2 : Nat), .int .i64 (S0 ^^^ S1 ^^^ S2 : Nat), t20, t21, rfl, (by simp only [Act.put, List.setIfInBounds_toArray, List.set_cons_zero, List.set_cons_succ]), hbw, v1, v2, v6, v7, v11, v12, v13, v17, v18, fun _ => rfl, v20, v21⟩
              · -- 20
                obtain rfl := v2 (ready_dep hi rfl (e := ⟨2, .data⟩) (by simp) rfl)
                obtain rfl := v19 (ready_dep hi rfl (e := ⟨19, .data⟩) (by simp) rfl)
                refine wpOp_hid rfl (fun K hK => ?_)
                simp only [Act.put, List.setIfInBounds_toArray, List.set_cons_zero, List.set_cons_succ]
                go_simp
                exact hK.out _ _ ⟨L1, L2, L6, L7, L11, L12, L13, L17, L18, L19, true, L21, t1, .int .i64 (S0 ^^^ S1 ^^^ S2 : Nat), t6, t7, t11, t12, t13, t17, t18, .int .i64 (S0 ^^^ S1 ^^^ S2 : Nat), .bool true, t21, rfl, (by simp only [Act.put, List.setIfInBounds_toArray, List.set_cons_zero, List.set_cons_succ]), hbw, v1, v2, v6, v7, v11, v12, v13, v17, v18, v19, fun _ => rfl, v21⟩
              · -- 21
                obtain rfl := v20 (ready_dep hi rfl (e := ⟨20, .data⟩) (by simp) rfl)
                refine wpOp_hid rfl (fun K hK => ?_)
                simp only [Act.put, List.setIfInBounds_toArray, List.set_cons_zero, List.set_cons_succ]
                go_simp
                exact hK.out _ _ ⟨L1, L2, L6, L7, L11, L12, L13, L17, L18, L19, L20, true, t1, t2, t6, t7, t11, t12, t13, t17, t18, t19, .bool true, .bool true, rfl, (by simp only [Act.put, List.setIfInBounds_toArray, List.set_cons_zero, List.set_cons_succ]), hbw, v1, v2, v6, v7, v11, v12, v13, v17, v18, v19, v20, fun _ => rfl⟩
            · rintro listed a w' ⟨L1, L2, L6, L7, L11, L12, L13, L17, L18, L19, L20, L21, t1, t2, t6, t7, t11, t12, t13, t17, t18, t19, t20, t21, rfl, rfl, hbw, v1, v2, v6, v7, v11, v12, v13, v17, v18, v19, v20, v21⟩ hall
              obtain rfl := v21 (hall 21 (by decide))
              simp only [Act.put, List.setIfInBounds_toArray, List.set_cons_zero, List.set_cons_succ]
              refine NoPanic.normal ?_
              go_wp2
              go_ret
              exact ⟨rfl, hbel.trans (hbw.mono hsz)⟩
      · go_wp2
        go_ret
        exact ⟨rfl, hb1⟩

theorem walk (a0 : Option Addr) (l0 c0 : Nat) (x0 : List Nat) (a1 : Option Addr) (l1 c1 : Nat) (x1 : List Nat) (a2 : Option Addr) (l2 c2 : Nat) (x2 : List Nat) (w : World) (hT : Tab w)
    (h00 : x0.length = l0) (h01 : Byt x0) (h02 : l0 ≤ c0) (h03 : c0 ≤ maxLen) (h04 : a0 = none → l0 = 0 ∧ c0 = 0) (h05 : Reads w a0 (bV x0))
    (h10 : x1.length = l1) (h11 : Byt x1) (h12 : l1 ≤ c1) (h13 : c1 ≤ maxLen) (h14 : a1 = none → l1 = 0 ∧ c1 = 0) (h15 : Reads w a1 (bV x1))
    (h20 : x2.length = l2) (h21 : Byt x2) (h22 : l2 ≤ c2) (h23 : c2 ≤ maxLen) (h24 : a2 = none → l2 = 0 ∧ c2 = 0) (h25 : Reads w a2 (bV x2)) :
    Calls Tryd.prog 6 #[.slice a0 l0 c0, .slice a1 l1 c1, .slice a2 l2 c2] w fun e w' => e = .returned (.bool true) ∧ Below w.heap.size w w' :=
  walk1 a0 l0 c0 x0 a1 l1 c1 x1 a2 l2 c2 x2 w hT ⟨h00, h01, h02, h03, h04, h05⟩ ⟨h10, h11, h12, h13, h14, h15⟩ ⟨h20, h21, h22, h23, h24, h25⟩
end crcLinear
end Go.Proofs.YtojpdokkenghbaaDoor
