/- TableEnds: what stands in memory. -/
import Derived.Test.YtandbkbodlbjcaaAlv
namespace Go.Proofs.Ytandbkbodlbjcaa
open Go.RowKit Go.ChangeShapes Go.WideShapes Go.ChangeAt Go.Deep Go.Maps Go.Sort

/-- A name of two bytes. -/
def idB (x y : Nat) : ByteArray := ⟨#[x.toUInt8, y.toUInt8]⟩
theorem idB_valid {x y : Nat} (hx : x < 16) (hy : y < 16) : validL (idB x y).data.toList = true := by
  rw [valid_iff]
  refine ⟨by simp [idB], fun c hc => ?_⟩
  simp [idB] at hc
  rcases hc with rfl | rfl
  · rw [UInt8.toNat_ofNat']; omega
  · rw [UInt8.toNat_ofNat']; omega
theorem idB_size (x y : Nat) : (idB x y).size = 2 := rfl
theorem idB_inj {x y x' y' : Nat} (hx : x < 256) (hy : y < 256) (hx' : x' < 256) (hy' : y' < 256) (h : idB x y = idB x' y') : x = x' ∧ y = y' := by
  have h1 : (idB x y).data.toList = (idB x' y').data.toList := by rw [h]
  simp [idB] at h1
  obtain ⟨e1, e2⟩ := h1
  have e1 := congrArg UInt8.toNat e1
  have e2 := congrArg UInt8.toNat e2
  rw [UInt8.toNat_ofNat', UInt8.toNat_ofNat'] at e1 e2
  omega
theorem conv2 (x y : Nat) (w : World) : (convert 63 31 (.slice (some ⟨w.heap.size, 0, none⟩) 2 2)).run Try.prog (w.alloc (.cells #[.int .u8 (x : Nat), .int .u8 (y : Nat)] 5)) = .ok (.string (idB x y)) (w.alloc (.cells #[.int .u8 (x : Nat), .int .u8 (y : Nat)] 5)) := by
  have h := run_convert_bytes_arg (w.alloc (.cells #[.int .u8 (x : Nat), .int .u8 (y : Nat)] 5)) 63 5 Try.underlying63 Try.underlying5 w.heap.size 0 2 2 [(x : Int), (y : Int)] rfl (fun i hi => by
    rw [World.cell?_alloc_at _ _ _ _ rfl]
    have : i = 0 ∨ i = 1 := by omega
    rcases this with rfl | rfl <;> rfl) 31 Try.underlying31
  have e : strOfNums [(x : Int), (y : Int)] = idB x y := by
    apply bytes_inj
    simp [strOfNums, idB]
  rw [e] at h
  exact h

theorem i64_mask (m : Nat) (hm : m < 63) (n : Int) : bits .and .i64 n ((2 ^ m - 1 : Nat) : Int) = n % ((2 ^ m : Nat) : Int) := by
  have hle : 2 ^ m ≤ 2 ^ 62 := Nat.pow_le_pow_right (by decide) (by omega)
  have h1 : (BitVec.ofInt 64 ((2 ^ m - 1 : Nat) : Int)).toNat = 2 ^ m - 1 := by
    rw [BitVec.ofInt_natCast, BitVec.toNat_ofNat]; exact Nat.mod_eq_of_lt (by omega)
  have key : (BitVec.ofInt 64 n &&& BitVec.ofInt 64 ((2 ^ m - 1 : Nat) : Int)).toNat = (n % ((2 ^ 64 : Nat) : Int)).toNat % 2 ^ m := by
    rw [BitVec.toNat_and, BitVec.toNat_ofInt, h1, Nat.and_two_pow_sub_one_eq_mod]
  show IntKind.i64.wrap ((BitVec.ofInt 64 n &&& BitVec.ofInt 64 ((2 ^ m - 1 : Nat) : Int)).toNat : Nat) = _
  have hp : 0 < 2 ^ m := Nat.two_pow_pos m
  have hd : (2 ^ m) ∣ 2 ^ 64 := Nat.pow_dvd_pow 2 (by omega)
  have h2 : (((n % ((2 ^ 64 : Nat) : Int)).toNat % 2 ^ m : Nat) : Int) = n % ((2 ^ m : Nat) : Int) := by
    rw [Int.natCast_emod, Int.toNat_of_nonneg (Int.emod_nonneg _ (by decide))]
    exact Int.emod_emod_of_dvd n (Int.natCast_dvd_natCast.2 hd)
  have h3 : (n % ((2 ^ 64 : Nat) : Int)).toNat % 2 ^ m < 2 ^ m := Nat.mod_lt _ hp
  rw [key, IntKind.wrap_i64, h2]
  have h4 : n % ((2 ^ m : Nat) : Int) < ((2 ^ m : Nat) : Int) := Int.emod_lt_of_pos _ (by omega)
  have h5 : 0 ≤ n % ((2 ^ m : Nat) : Int) := Int.emod_nonneg _ (by omega)
  omega
theorem iv_at {w : World} {a : Option Addr} {l : List Int} (h : Reads w a (iV l)) {k : Nat} (hk : k < l.length) : ∃ b off, a = some ⟨b, off, none⟩ ∧ w.cell? ⟨b, off + k, none⟩ = some (.int .i64 (l.getD k 0)) := by
  rcases h with h | ⟨b, off, e, hc⟩
  · have : l = [] := by simpa [iV] using h
    subst this; simp at hk
  · exact ⟨b, off, e, hc k _ (by simp [iV, List.getD, hk])⟩

/-- A table beside what stood there, and a row of names. -/
structure EM (w wr : World) (κ : Cl) (cb : Nat) (T : Tb) (a : Option Addr) (n c : Nat) (R : List ByteArray) : Prop where
  bel : Below w.heap.size w wr
  tab : TabM κ wr cb T
  new : ∀ k, κ k ≠ none → w.heap.size ≤ k
  rn : RN wr a n c R
  rk : ∀ b, blk a = some b → κ b = none ∧ w.heap.size ≤ b

theorem EM.step {w wr w' : World} {κ κ' : Cl} {cb : Nat} {T T' : Tb} {a : Option Addr} {n c : Nat} {R : List ByteArray} (h : EM w wr κ cb T a n c R) (hT : TabM κ' w' cb T') (hS : Stp κ κ' wr w') : EM w w' κ' cb T' a n c R := by
  refine ⟨stp_below hS h.bel (Nat.le_refl _) h.new, hT, fun k hk => ?_, h.rn.keep hS.kp.size (fun b hb => hS.kp.block b (h.rn.lt hb) (fun e => e (h.rk b hb).1)), fun b hb => ⟨?_, (h.rk b hb).2⟩⟩
  · by_cases hlt : k < wr.heap.size
    · rw [hS.col k hlt] at hk; exact h.new k hk
    · have := h.bel.size; omega
  · rw [hS.col b (h.rn.lt hb)]; exact (h.rk b hb).1
theorem EM.below {w wr w' : World} {κ : Cl} {cb : Nat} {T : Tb} {a : Option Addr} {n c : Nat} {R : List ByteArray} (h : EM w wr κ cb T a n c R) (hb : Below wr.heap.size wr w') : EM w w' κ cb T a n c R :=
  h.step (h.tab.below hb) (Stp.ofB hb)
theorem EM.app {w wr w' : World} {κ : Cl} {cb : Nat} {T : Tb} {a a' : Option Addr} {n c n' c' : Nat} {R R' : List ByteArray} (h : EM w wr κ cb T a n c R) (ho : RN w' a' n' c' R') (hg : wr.grownBy w' (blk a)) (h' : blk a' = blk a ∨ ∃ b', blk a' = some b' ∧ wr.heap.size ≤ b' ∧ b' < w'.heap.size) : EM w w' κ cb T a' n' c' R' := by
  refine ⟨h.bel.grown hg h.bel.size (fun b hb => (h.rk b hb).2), h.tab.keep hg.size (fun k hk hc => hg.block k hk (fun e => hc (h.rk k e.symm).1)), h.new, ho, fun b hb => ?_⟩
  rcases h' with e | ⟨b', e, e1, e2⟩
  · exact h.rk b (by rw [← e]; exact hb)
  · rw [hb] at e; cases e
    refine ⟨?_, by have := h.bel.size; omega⟩
    cases hc : κ b with
    | none => rfl
    | some t => have := h.tab.1 b (by rw [hc]; simp); omega
theorem EM.cut {w wr : World} {κ : Cl} {cb : Nat} {T : Tb} {a a' : Option Addr} {n c n' c' : Nat} {R R' : List ByteArray} (h : EM w wr κ cb T a n c R) (ho : RN wr a' n' c' R') (e : blk a' = blk a) : EM w wr κ cb T a' n' c' R' :=
  ⟨h.bel, h.tab, h.new, ho, fun b hb => h.rk b (by rw [← e]; exact hb)⟩

theorem EM.start {w w1 w2 : World} {m : Int} (hb : Below w.heap.size w w1) (hT : TabM (paint (fun _ => none) w1.heap.size .box) w2 w1.heap.size (Tb.new m)) (hB : Below w1.heap.size w1 w2) : EM w w2 (paint (fun _ => none) w1.heap.size .box) w1.heap.size (Tb.new m) none 0 0 [] := by
  refine ⟨hb.trans (hB.mono hb.size), hT, fun k hk => ?_, RN.nil _, fun b hb => by simp [blk] at hb⟩
  by_cases e : k = w1.heap.size
  · rw [e]; exact hb.size
  · rw [paint_other e] at hk; exact absurd rfl hk

namespace tableEnds
/-- The table's tasks, as far as the law's own row tells. -/
structure EI (T : Tb) (k : Nat) : Prop where
  mx : T.mx = 300
  ids : ∀ x ∈ T.al, ∃ j, j < k ∧ x = idB (j % 16) (j / 16 % 16)
  r : ∀ x ∈ T.rdy, x ∈ T.al
  g : ∀ x ∈ T.goi, x ∈ T.al
  nd : (T.rdy ++ T.goi).Nodup
  l1 : T.al.length ≤ k
  l2 : T.rdy.length ≤ k
  l3 : T.goi.length ≤ k

theorem EI.dj {T : Tb} {k : Nat} (h : EI T k) : ∀ x ∈ T.rdy, x ∉ T.goi := fun x hx hg => by
  have := (List.nodup_append.1 h.nd).2.2 x hx x hg
  exact this rfl
theorem EI.new : EI (Tb.new 300) 0 := ⟨rfl, fun x hx => (by cases hx), fun x hx => (by cases hx), fun x hx => (by cases hx), List.nodup_nil, Nat.le_refl _, Nat.le_refl _, Nat.le_refl _⟩
theorem EI.more {T : Tb} {k : Nat} (h : EI T k) : EI T (k + 1) := ⟨h.mx, fun x hx => by obtain ⟨j, h1, h2⟩ := h.ids x hx; exact ⟨j, by omega, h2⟩, h.r, h.g, h.nd, by have := h.l1; omega, by have := h.l2; omega, by have := h.l3; omega⟩
theorem EI.fresh {T : Tb} {k : Nat} (h : EI T k) (hk : k < 200) : idB (k % 16) (k / 16 % 16) ∉ T.al := fun hx => by
  obtain ⟨j, h1, h2⟩ := h.ids _ hx
  obtain ⟨e1, e2⟩ := idB_inj (by omega) (by omega) (by omega) (by omega) h2
  omega
theorem EI.add {T : Tb} {k : Nat} (h : EI T k) (hk : k < 200) : addT T (idB (k % 16) (k / 16 % 16)) = (0, { T with al := idB (k % 16) (k / 16 % 16) :: T.al, rdy := T.rdy ++ [idB (k % 16) (k / 16 % 16)] }) := by
  unfold addT
  have h1 := h.l1
  have h2 := h.mx
  rw [if_neg, if_neg]
  · rw [h2]; omega
  · rw [idB_valid (by omega) (by omega), inB_no.2 (h.fresh hk)]; simp
theorem EI.added {T : Tb} {k : Nat} (h : EI T k) (hk : k < 200) : EI { T with al := idB (k % 16) (k / 16 % 16) :: T.al, rdy := T.rdy ++ [idB (k % 16) (k / 16 % 16)] } (k + 1) := by
  have hf := h.fresh hk
  refine ⟨h.mx, fun x hx => ?_, fun x hx => ?_, fun x hx => List.mem_cons_of_mem _ (h.g x hx), ?_, by have := h.l1; simp; omega, by have := h.l2; simp; omega, by have := h.l3; simp; omega⟩
  · rcases List.mem_cons.1 hx with rfl | hx
    · exact ⟨k, by omega, rfl⟩
    · obtain ⟨j, h1, h2⟩ := h.ids x hx; exact ⟨j, by omega, h2⟩
  · rcases List.mem_append.1 hx with hx | hx
    · exact List.mem_cons_of_mem _ (h.r x hx)
    · simp at hx; subst hx; exact List.mem_cons_self
  · obtain ⟨n1, n2, n3⟩ := List.nodup_append.1 h.nd
    refine List.nodup_append.2 ⟨List.nodup_append.2 ⟨n1, by simp, fun x hx y hy => ?_⟩, n2, fun x hx y hy => ?_⟩
    · simp at hy; subst hy; intro e; subst e; exact hf (h.r _ hx)
    · rcases List.mem_append.1 hx with hx | hx
      · exact n3 x hx y hy
      · simp at hx; subst hx; intro e; subst e; exact hf (h.g _ hy)
theorem EI.next {T : Tb} {k : Nat} (h : EI T k) {L : List ByteArray} {x : ByteArray} (hr : T.rdy = L ++ [x]) : EI { T with rdy := L, goi := x :: T.goi } (k + 1) := by
  have hd := h.nd
  rw [hr] at hd
  have hrr := h.r
  rw [hr] at hrr
  have hl := h.l2
  rw [hr] at hl
  simp at hl
  refine ⟨h.mx, h.more.ids, fun y hy => hrr y (by simp [hy]), fun y hy => ?_, ?_, h.more.l1, by simp; omega, by have := h.l3; simp; omega⟩
  · rcases List.mem_cons.1 hy with rfl | hy
    · exact hrr _ (by simp)
    · exact h.g y hy
  · simpa using hd
theorem EI.steal {T : Tb} {k : Nat} (h : EI T k) {L : List ByteArray} {x : ByteArray} (hr : T.rdy = x :: L) : EI { T with rdy := L, al := del T.al x } (k + 1) := by
  have hd := h.nd
  rw [hr] at hd
  have hrr := h.r
  rw [hr] at hrr
  have hl := h.l2
  rw [hr] at hl
  simp at hl
  simp only [List.cons_append, List.nodup_cons, List.mem_append, not_or] at hd
  refine ⟨h.mx, fun y hy => h.more.ids y (mem_del.1 hy).1, fun y hy => mem_del.2 ⟨hrr y (by simp [hy]), fun e => hd.1.1 (e ▸ hy)⟩, fun y hy => mem_del.2 ⟨h.g y hy, fun e => hd.1.2 (e ▸ hy)⟩, hd.2, ?_, by simp; omega, by have := h.l3; simp; omega⟩
  have : (del T.al x).length ≤ T.al.length := List.length_filter_le _ _
  have := h.l1
  simp; omega

/-- Ready, and that it is the row. -/
theorem ready_same {w wr : World} {κ : Cl} {cb : Nat} {T : Tb} {a : Option Addr} {n c : Nat} (h : EM w wr κ cb T a n c T.rdy) (hn : n ≤ 1000) : Calls Try.prog 27 #[.pointer (some ⟨cb, 0, none⟩)] wr fun e w' => ∃ a5 c5, e = .returned (.slice a5 n c5) ∧ Calls Try.prog 20 #[.slice a5 n c5, .slice a n c] w' fun e w'' => e = .returned (.bool true) ∧ EM w w'' κ cb T a n c T.rdy := by
  have hl := h.rn.1
  refine (tab_ready h.tab (by omega)).mono ?_
  rintro e w' ⟨v, rfl, ho, hb⟩
  obtain ⟨a5, c5, rfl, hR, _⟩ := own_formS ho
  have h2 := h.below hb
  rw [hl]
  refine ⟨a5, c5, rfl, ?_⟩
  have := same_any T.rdy T.rdy a5 a c5 c w' hR.reads h2.rn.reads (by omega) (by omega)
  rw [hl] at this
  refine this.mono ?_
  rintro e w'' ⟨rfl, hb2⟩
  exact ⟨ret_bool (by simp), h2.below hb2⟩
end tableEnds
end Go.Proofs.Ytandbkbodlbjcaa
