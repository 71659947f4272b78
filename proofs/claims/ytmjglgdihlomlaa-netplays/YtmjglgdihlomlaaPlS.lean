/- NetPlays: the three nets beside one another, and what each pair of calls makes of them. -/
import Derived.Test.YtmjglgdihlomlaaAlv
import Derived.Test.YtmjglgdihlomlaaRDup
import Derived.Test.YtmjglgdihlomlaaRFlp
import Derived.Test.YtmjglgdihlomlaaRGon
import Derived.Test.YtmjglgdihlomlaaRDly
import Derived.Test.YtmjglgdihlomlaaGoA
import Derived.Test.YtmjglgdihlomlaaArgA
namespace Go.Proofs.Ytmjglgdihlomlaa
namespace netPlays
open Go.RowKit Go.ChangeShapes Go.WideShapes Go.ChangeAt Go.Deep

/-- The law's net n, the other net o, the document's net r, and the act at hand in its box. -/
structure GS (w0 w : World) (nb ob rb ab : Nat) (xs : List Value) (Ln Lr : List Pc) (D1 D2 D3 : Nat → Prop) : Prop where
  n : NetP D1 w nb Ln
  o : ∃ LO, NetP D2 w ob LO ∧ LO.length ≤ 10000
  r : NetR D3 w rb Lr
  d12 : ∀ k, D1 k → ¬ D2 k
  d13 : ∀ k, D1 k → ¬ D3 k
  d23 : ∀ k, D2 k → ¬ D3 k
  e1 : ∀ k, D1 k → w0.heap.size ≤ k ∧ k ≠ ab
  e2 : ∀ k, D2 k → w0.heap.size ≤ k ∧ k ≠ ab
  e3 : ∀ k, D3 k → w0.heap.size ≤ k ∧ k ≠ ab
  lo : w0.heap.size ≤ ab
  box : BoxL w ab xs
  bel : Below w0.heap.size w0 w
def G (w0 w : World) (nb ob rb ab : Nat) (xs : List Value) (Ln Lr : List Pc) : Prop := ∃ D1 D2 D3, GS w0 w nb ob rb ab xs Ln Lr D1 D2 D3
theorem box_hold {w w' : World} {g : Nat} {xs : List Value} (h : BoxL w g xs) (hs : w.heap.size ≤ w'.heap.size) (hb : w'.heap[g]? = w.heap[g]?) : BoxL w' g xs := by
  refine ⟨Nat.lt_of_lt_of_le h.1 hs, fun j hj => ⟨?_, ?_⟩⟩
  · rw [World.cell?_of_block (w := w) (a := ⟨g, j, none⟩) hb]; exact (h.2 j hj).1
  · rw [World.frozen?_of_block (w := w) (a := ⟨g, j, none⟩) hb]; exact (h.2 j hj).2
theorem GS.ofN {w0 w w' : World} {nb ob rb ab : Nat} {xs : List Value} {Ln Ln' Lr : List Pc} {D1 D2 D3 : Nat → Prop} (h : GS w0 w nb ob rb ab xs Ln Lr D1 D2 D3) (hn : NetP (Ex D1 w w') w' nb Ln') (hk : Kp D1 w w') : G w0 w' nb ob rb ab xs Ln' Lr := by
  obtain ⟨LO, ho, hl⟩ := h.o
  have hab := h.box.1
  have hs := h.bel.size
  exact ⟨_, D2, D3, hn, ⟨LO, ho.other hk fun k hd e => h.d12 k e hd, hl⟩, h.r.other hk fun k hd e => h.d13 k e hd, fun k hd hd2 => hd.elim (fun q => h.d12 k q hd2) fun q => by have := ho.lt k hd2; omega, fun k hd hd2 => hd.elim (fun q => h.d13 k q hd2) fun q => by have := h.r.lt k hd2; omega, h.d23, fun k hd => hd.elim (h.e1 k) fun q => ⟨by omega, by omega⟩, h.e2, h.e3, h.lo, box_hold h.box hk.size (hk.block ab hab fun e => (h.e1 ab e).2 rfl), h.bel.trans (hk.to_below hs fun k e => (h.e1 k e).1)⟩
theorem GS.ofO {w0 w w' : World} {nb ob rb ab : Nat} {xs : List Value} {Ln Lr LO' : List Pc} {D1 D2 D3 : Nat → Prop} (h : GS w0 w nb ob rb ab xs Ln Lr D1 D2 D3) (hn : NetP (Ex D2 w w') w' ob LO') (hl : LO'.length ≤ 10000) (hk : Kp D2 w w') : G w0 w' nb ob rb ab xs Ln Lr := by
  have hab := h.box.1
  have hs := h.bel.size
  exact ⟨D1, _, D3, h.n.other hk fun k hd e => h.d12 k hd e, ⟨LO', hn, hl⟩, h.r.other hk fun k hd e => h.d23 k e hd, fun k hd hd2 => hd2.elim (fun q => h.d12 k hd q) fun q => by have := h.n.lt k hd; omega, h.d13, fun k hd hd2 => hd.elim (fun q => h.d23 k q hd2) fun q => by have := h.r.lt k hd2; omega, h.e1, fun k hd => hd.elim (h.e2 k) fun q => ⟨by omega, by omega⟩, h.e3, h.lo, box_hold h.box hk.size (hk.block ab hab fun e => (h.e2 ab e).2 rfl), h.bel.trans (hk.to_below hs fun k e => (h.e2 k e).1)⟩
theorem GS.ofR {w0 w w' : World} {nb ob rb ab : Nat} {xs : List Value} {Ln Lr Lr' : List Pc} {D1 D2 D3 : Nat → Prop} (h : GS w0 w nb ob rb ab xs Ln Lr D1 D2 D3) (hn : NetR (Ex D3 w w') w' rb Lr') (hk : Kp D3 w w') : G w0 w' nb ob rb ab xs Ln Lr' := by
  obtain ⟨LO, ho, hl⟩ := h.o
  have hab := h.box.1
  have hs := h.bel.size
  exact ⟨D1, D2, _, h.n.other hk fun k hd e => h.d13 k hd e, ⟨LO, ho.other hk fun k hd e => h.d23 k hd e, hl⟩, hn, h.d12, fun k hd hd2 => hd2.elim (fun q => h.d13 k hd q) fun q => by have := h.n.lt k hd; omega, fun k hd hd2 => hd2.elim (fun q => h.d23 k hd q) fun q => by have := ho.lt k hd; omega, h.e1, h.e2, fun k hd => hd.elim (h.e3 k) fun q => ⟨by omega, by omega⟩, h.lo, box_hold h.box hk.size (hk.block ab hab fun e => (h.e3 ab e).2 rfl), h.bel.trans (hk.to_below hs fun k e => (h.e3 k e).1)⟩
theorem G.below {w0 w w' : World} {nb ob rb ab : Nat} {xs : List Value} {Ln Lr : List Pc} (h : G w0 w nb ob rb ab xs Ln Lr) (hb : Below w.heap.size w w') : G w0 w' nb ob rb ab xs Ln Lr := by
  obtain ⟨D1, D2, D3, h⟩ := h
  obtain ⟨LO, ho, hl⟩ := h.o
  exact ⟨D1, D2, D3, h.n.below hb, ⟨LO, ho.below hb, hl⟩, h.r.below hb, h.d12, h.d13, h.d23, h.e1, h.e2, h.e3, h.lo, box_hold h.box hb.size (hb.block ab h.box.1), h.bel.trans (hb.mono h.bel.size)⟩
theorem ex_np {D : Nat → Prop} {w w' : World} {cb : Nat} {L : List Pc} (h : NetP D w' cb L) (_ : w.heap.size ≤ w'.heap.size) : NetP (Ex D w w') w' cb L := h.mono (fun _ hk => .inl hk) fun k hk => hk.elim (h.lt k) fun q => q.2
theorem ex_nr {D : Nat → Prop} {w w' : World} {cb : Nat} {L : List Pc} (h : NetR D w' cb L) (_ : w.heap.size ≤ w'.heap.size) : NetR (Ex D w w') w' cb L := by
  have hl := h.lt
  obtain ⟨l, e, hM, hE⟩ := h
  exact ⟨l, e, hM.mono (fun k hk => .inl hk) fun k hk => hk.elim (hl k) fun q => q.2, hE⟩
/-- What is on the way is in bounds. -/
structure Ok (L : List Pc) : Prop where
  len : L.length ≤ 10000
  wf : ∀ p ∈ L, wfP p
  sz : ∀ p ∈ L, p.2.2.length ≤ 1000000
theorem Ok.sub {L L' : List Pc} (h : Ok L) (hl : L'.length ≤ L.length) (hm : ∀ p ∈ L', p ∈ L) : Ok L' := ⟨by have := h.len; omega, fun p hp => h.wf p (hm p hp), fun p hp => h.sz p (hm p hp)⟩
theorem Ok.erase {L : List Pc} (h : Ok L) (k : Nat) : Ok (L.eraseIdx k) := h.sub (List.length_eraseIdx_le _ _) fun _ hp => List.mem_of_mem_eraseIdx hp
theorem Ok.app {L M : List Pc} (h : Ok L) (hM : ∀ p ∈ M, wfP p ∧ p.2.2.length ≤ 1000000) (hl : L.length + M.length ≤ 10000) : Ok (L ++ M) := ⟨by rw [List.length_append]; exact hl, fun p hp => (List.mem_append.1 hp).elim (h.wf p) fun q => (hM p q).1, fun p hp => (List.mem_append.1 hp).elim (h.sz p) fun q => (hM p q).2⟩
theorem hasB_yes {n : Nat} {k : Int} (h : hasB n k = true) : ∃ j : Nat, k = (j : Int) ∧ j < n := by
  simp only [hasB, decide_eq_true_eq] at h
  exact ⟨k.toNat, by omega, by omega⟩
/-- Dup, by both. -/
theorem step_dup {w0 w : World} {nb ob rb ab : Nat} {xs : List Value} {L : List Pc} (h : G w0 w nb ob rb ab xs L L) (ok : Ok L) (k : Int) : ∃ L' v, Ok L' ∧ Calls Try.prog 16 #[.pointer (some ⟨nb, 0, none⟩), .int .i64 k] w (fun e w' => e = .returned (.bool v) ∧ G w0 w' nb ob rb ab xs L' L) ∧ ∀ W, G w0 W nb ob rb ab xs L' L → Calls Try.prog 17 #[.pointer (some ⟨rb, 0, none⟩), .int .i64 k] W fun e w' => e = .returned (.bool v) ∧ G w0 w' nb ob rb ab xs L' L' := by
  by_cases hk : hasB L.length k = false
  · refine ⟨L, false, ok, ?_, fun W hW => ?_⟩
    · obtain ⟨D1, D2, D3, hs⟩ := h
      refine (dup_no D1 w nb L k hs.n hk).mono ?_
      rintro e w' ⟨rfl, rfl⟩
      exact ⟨rfl, D1, D2, D3, hs⟩
    · obtain ⟨D1, D2, D3, hs⟩ := hW
      refine (rdup_no D3 W rb L k hs.r (.inl hk)).mono ?_
      rintro e w' ⟨rfl, rfl⟩
      exact ⟨rfl, D1, D2, D3, hs⟩
  · by_cases hL : 10000 ≤ L.length
    · refine ⟨L, false, ok, ?_, fun W hW => ?_⟩
      · obtain ⟨D1, D2, D3, hs⟩ := h
        refine (dup_full D1 w nb L k hs.n hL).mono ?_
        rintro e w' ⟨rfl, rfl⟩
        exact ⟨rfl, D1, D2, D3, hs⟩
      · obtain ⟨D1, D2, D3, hs⟩ := hW
        refine (rdup_no D3 W rb L k hs.r (.inr hL)).mono ?_
        rintro e w' ⟨rfl, rfl⟩
        exact ⟨rfl, D1, D2, D3, hs⟩
    · obtain ⟨j, rfl, hj⟩ := hasB_yes (by simpa using hk)
      refine ⟨L ++ [L[j]], true, ok.app (fun p hp => by rw [List.mem_singleton] at hp; subst hp; exact ⟨ok.wf _ (List.getElem_mem _), ok.sz _ (List.getElem_mem _)⟩) (by simp; omega), ?_, fun W hW => ?_⟩
      · obtain ⟨D1, D2, D3, hs⟩ := h
        refine (dup_yes D1 w nb L j hs.n hj (by omega)).mono ?_
        rintro e w' ⟨rfl, hn, hkp⟩
        exact ⟨rfl, hs.ofN hn hkp⟩
      · obtain ⟨D1, D2, D3, hs⟩ := hW
        refine (rdup_yes D3 W rb L j hs.r hj (by omega) (ok.sz _ (List.getElem_mem _))).mono ?_
        rintro e w' ⟨rfl, hn, hkp⟩
        exact ⟨rfl, hs.ofR hn hkp⟩
/-- Flip, by both. -/
theorem step_flip {w0 w : World} {nb ob rb ab : Nat} {xs : List Value} {L : List Pc} (h : G w0 w nb ob rb ab xs L L) (ok : Ok L) (k d : Int) (hd : d ≤ 9223372036854775807) : ∃ L' v, Ok L' ∧ Calls Try.prog 18 #[.pointer (some ⟨nb, 0, none⟩), .int .i64 k, .int .i64 d] w (fun e w' => e = .returned (.bool v) ∧ G w0 w' nb ob rb ab xs L' L) ∧ ∀ W, G w0 W nb ob rb ab xs L' L → Calls Try.prog 19 #[.pointer (some ⟨rb, 0, none⟩), .int .i64 k, .int .i64 d] W fun e w' => e = .returned (.bool v) ∧ G w0 w' nb ob rb ab xs L' L' := by
  by_cases hk : hasB L.length k = false
  · refine ⟨L, false, ok, ?_, fun W hW => ?_⟩
    · obtain ⟨D1, D2, D3, hs⟩ := h
      refine (flip_no D1 w nb L k d hs.n hk).mono ?_
      rintro e w' ⟨rfl, rfl⟩
      exact ⟨rfl, D1, D2, D3, hs⟩
    · obtain ⟨D1, D2, D3, hs⟩ := hW
      refine (rflip_no D3 W rb L k d hs.r hk).mono ?_
      rintro e w' ⟨rfl, rfl⟩
      exact ⟨rfl, D1, D2, D3, hs⟩
  · by_cases hd0 : d < 0
    · refine ⟨L, false, ok, ?_, fun W hW => ?_⟩
      · obtain ⟨D1, D2, D3, hs⟩ := h
        refine (flip_neg D1 w nb L k d hs.n hd0).mono ?_
        rintro e w' ⟨rfl, rfl⟩
        exact ⟨rfl, D1, D2, D3, hs⟩
      · obtain ⟨D1, D2, D3, hs⟩ := hW
        refine (rflip_neg D3 W rb L k d hs.r hd0).mono ?_
        rintro e w' ⟨rfl, rfl⟩
        exact ⟨rfl, D1, D2, D3, hs⟩
    · obtain ⟨j, rfl, hj⟩ := hasB_yes (by simpa using hk)
      obtain ⟨m, rfl⟩ : ∃ m : Nat, d = (m : Int) := ⟨d.toNat, by omega⟩
      by_cases hf : L[j].2.2.length ≤ m / 8
      · have hm : m ≤ 9223372036854775807 := by omega
        refine ⟨L, false, ok, ?_, fun W hW => ?_⟩
        · obtain ⟨D1, D2, D3, hs⟩ := h
          refine (flip_far D1 w nb L j m hs.n hj hf hm).mono ?_
          rintro e w' ⟨rfl, rfl⟩
          exact ⟨rfl, D1, D2, D3, hs⟩
        · obtain ⟨D1, D2, D3, hs⟩ := hW
          refine (rflip_far D3 W rb L j m hs.r hj hf hm).mono ?_
          rintro e w' ⟨rfl, rfl⟩
          exact ⟨rfl, D1, D2, D3, hs⟩
      · have hmem : L[j] ∈ L := List.getElem_mem _
        have hz := ok.sz _ hmem
        refine ⟨L.set j (flipP L[j] m), true, ⟨by rw [List.length_set]; exact ok.len, fun p hp => ?_, fun p hp => ?_⟩, ?_, fun W hW => ?_⟩
        · rcases List.mem_or_eq_of_mem_set hp with hp | rfl
          · exact ok.wf p hp
          · exact (show wfP (flipP L[j] m) from ok.wf L[j] hmem)
        · rcases List.mem_or_eq_of_mem_set hp with hp | rfl
          · exact ok.sz p hp
          · show (flipL L[j].2.2 m).length ≤ _
            unfold flipL
            rw [List.length_set]
            exact hz
        · obtain ⟨D1, D2, D3, hs⟩ := h
          refine (flip_yes D1 w nb L j m hs.n hj (by omega) hz).mono ?_
          rintro e w' ⟨rfl, hn, hkp⟩
          exact ⟨rfl, hs.ofN hn hkp⟩
        · obtain ⟨D1, D2, D3, hs⟩ := hW
          refine (rflip_yes D3 W rb L j m hs.r hj (by omega) hz).mono ?_
          rintro e w' ⟨rfl, hn, hkp⟩
          exact ⟨rfl, hs.ofR (ex_nr hn hkp.size) hkp⟩
/-- Drop by n, Deliver by r: whether there is such a parcel. -/
theorem step_drop {w0 w : World} {nb ob rb ab : Nat} {xs : List Value} {L : List Pc} (h : G w0 w nb ob rb ab xs L L) (ok : Ok L) (k : Int) : ∃ L' v, Ok L' ∧ Calls Try.prog 15 #[.pointer (some ⟨nb, 0, none⟩), .int .i64 k] w (fun e w' => e = .returned (.bool v) ∧ G w0 w' nb ob rb ab xs L' L) ∧ ∀ W, G w0 W nb ob rb ab xs L' L → Calls Try.prog 13 #[.pointer (some ⟨rb, 0, none⟩), .int .i64 k] W fun e w' => ∃ i j a n c, e = .returned (.tuple #[.agg #[.int .i64 i, .int .i64 j, .slice a n c], .bool v]) ∧ G w0 w' nb ob rb ab xs L' L' := by
  by_cases hk : hasB L.length k = false
  · refine ⟨L, false, ok, ?_, fun W hW => ?_⟩
    · obtain ⟨D1, D2, D3, hs⟩ := h
      refine (drop_no D1 w nb L k hs.n hk).mono ?_
      rintro e w' ⟨rfl, rfl⟩
      exact ⟨rfl, D1, D2, D3, hs⟩
    · have hW' := hW
      obtain ⟨D1, D2, D3, hs⟩ := hW
      refine (rdeliver_no D3 W rb L k hs.r hk).mono ?_
      rintro e w' ⟨rfl, hb⟩
      exact ⟨_, _, _, _, _, rfl, hW'.below hb⟩
  · obtain ⟨j, rfl, hj⟩ := hasB_yes (by simpa using hk)
    refine ⟨L.eraseIdx j, true, ok.erase j, ?_, fun W hW => ?_⟩
    · obtain ⟨D1, D2, D3, hs⟩ := h
      refine (drop_yes D1 w nb L j hs.n hj (by have := ok.len; omega)).mono ?_
      rintro e w' ⟨rfl, hn, hkp⟩
      exact ⟨rfl, hs.ofN (ex_np hn hkp.size) hkp⟩
    · obtain ⟨D1, D2, D3, hs⟩ := hW
      refine (rdeliver_yes D3 W rb L j hs.r hj (by have := ok.len; omega)).mono ?_
      rintro e w' ⟨a, n, c, rfl, _, _, _, hn, hkp⟩
      exact ⟨_, _, _, _, _, rfl, hs.ofR hn hkp⟩
/-- Gone, by both. -/
theorem step_gone {w0 w : World} {nb ob rb ab : Nat} {xs : List Value} {L : List Pc} (h : G w0 w nb ob rb ab xs L L) (ok : Ok L) (d : Option Addr) (m e : Nat) (ns : List Int) (hnl : ns.length = m) (hm : m ≤ 100000) (hr : Reads w0 d (iV ns)) (hwn : ∀ v ∈ ns, (Lit.int .i64 v).wf = true) : ∃ L' v, Ok L' ∧ Calls Try.prog 20 #[.pointer (some ⟨nb, 0, none⟩), .slice d m e] w (fun e w' => e = .returned (.int .i64 v) ∧ G w0 w' nb ob rb ab xs L' L) ∧ ∀ W, G w0 W nb ob rb ab xs L' L → Calls Try.prog 21 #[.pointer (some ⟨rb, 0, none⟩), .slice d m e] W fun e w' => e = .returned (.int .i64 v) ∧ G w0 w' nb ob rb ab xs L' L' := by
  have hkeep : ∀ W, Below w0.heap.size w0 W → Reads W d (iV ns) := fun W hb => by
    rcases hr with e0 | ⟨b, off, e0, hr⟩
    · exact .inl e0
    · exact .inr ⟨b, off, e0, fun j u hu => keep_cell (hr j u hu) hb⟩
  refine ⟨L.filter (stayB ns), ((L.length - (L.filter (stayB ns)).length : Nat) : Int), ok.sub (List.length_filter_le _ _) fun p hp => (List.mem_filter.1 hp).1, ?_, fun W hW => ?_⟩
  · obtain ⟨D1, D2, D3, hs⟩ := h
    refine (gone_any D1 w nb L d m e ns hs.n (by have := ok.len; omega) hnl hm (hkeep w hs.bel) ok.wf hwn).mono ?_
    rintro e w' ⟨rfl, hn, hkp⟩
    exact ⟨rfl, hs.ofN (ex_np hn hkp.size) hkp⟩
  · obtain ⟨D1, D2, D3, hs⟩ := hW
    refine (rgone_any D3 W rb L d m e ns hs.r ok.len hnl hm (hkeep W hs.bel)).mono ?_
    rintro e w' ⟨rfl, hn, hkp⟩
    exact ⟨rfl, hs.ofR hn hkp⟩
/-- The other net's Send. -/
theorem step_other {w0 w : World} {nb ob rb ab : Nat} {xs : List Value} {L : List Pc} (h : G w0 w nb ob rb ab xs L L) (a : Option Addr) (n c : Nat) (l : List Pm) (hr : RowP (OldB w0) w0 a n c l) (hn : n ≤ 20) (hz : ∀ x ∈ l, x.n ≤ 200) : Calls Try.prog 10 #[.pointer (some ⟨ob, 0, none⟩), .slice a n c] w fun e w' => (∃ v, e = .returned (.int .i64 v)) ∧ G w0 w' nb ob rb ab xs L L := by
  obtain ⟨D1, D2, D3, hs⟩ := h
  obtain ⟨LO, ho, hl⟩ := hs.o
  refine (send_any D2 (OldB w0) w ob LO a n c l ho hl (hr.keep fun k hk _ => hs.bel.block k hk) (fun k hk hd => by have := (hs.e2 k hd).1; unfold OldB at hk; omega) (by omega) fun x hx => by have := hz x hx; omega).mono ?_
  rintro e w' ⟨rfl, hn', hkp⟩
  refine ⟨⟨_, rfl⟩, hs.ofO hn' ?_ hkp⟩
  rw [List.length_append, List.length_take]
  omega
/-- Send, by both: n gets a copy that lies in blocks A of its own. -/
theorem step_send {w0 w : World} {nb ob rb ab : Nat} {xs : List Value} {L : List Pc} {D1 D2 D3 : Nat → Prop} (hs : GS w0 w nb ob rb ab xs L L D1 D2 D3) (ok : Ok L) (a : Option Addr) (n c : Nat) (l : List Pm) (hr : RowP (OldB w0) w0 a n c l) (hn : n ≤ 20) (hz : ∀ x ∈ l, x.n ≤ 200) (hw : ∀ x ∈ l, wfP x.p)
    (A : Nat → Prop) (a' : Option Addr) (n' c' : Nat) (l' : List Pm) (hr' : RowP A w a' n' c' l') (hA : ∀ k, A k → ¬ D1 k) (he : l'.map Pm.p = l.map Pm.p) : ∃ L' v, Ok L' ∧ Calls Try.prog 10 #[.pointer (some ⟨nb, 0, none⟩), .slice a' n' c'] w (fun e w' => e = .returned (.int .i64 v) ∧ Kp D1 w w' ∧ G w0 w' nb ob rb ab xs L' L) ∧ ∀ W, G w0 W nb ob rb ab xs L' L → Calls Try.prog 11 #[.pointer (some ⟨rb, 0, none⟩), .slice a n c] W fun e w' => e = .returned (.int .i64 v) ∧ G w0 w' nb ob rb ab xs L' L' := by
  have hz2 : ∀ p ∈ l.map Pm.p, wfP p ∧ p.2.2.length ≤ 200 := fun p hp => by
    obtain ⟨x, hx, rfl⟩ := List.mem_map.1 hp
    exact ⟨hw x hx, by have := (hr.2.2.2.2.2 x hx).1; have := hz x hx; omega⟩
  have hn' : n' = n := by
    have h1 := hr.1
    have h2 := hr'.1
    have := congrArg List.length he
    simp only [List.length_map] at this
    omega
  refine ⟨L ++ (l.map Pm.p).take (10000 - L.length), ((min (l.map Pm.p).length (10000 - L.length) : Nat) : Int), ok.app (fun p hp => ?_) ?_, ?_, fun W hW => ?_⟩
  · have := hz2 p (List.mem_of_mem_take hp)
    exact ⟨this.1, by omega⟩
  · have := ok.len
    rw [List.length_take]
    omega
  · have hz' : ∀ x ∈ l', x.n ≤ 1000000 := fun x hx => by
      have h1 := (hz2 x.p (by rw [← he]; exact List.mem_map_of_mem hx)).2
      have h2 := (hr'.2.2.2.2.2 x hx).1
      omega
    refine (send_any D1 A w nb L a' n' c' l' hs.n ok.len hr' hA (by omega) hz').mono ?_
    rintro e w' ⟨rfl, hnn, hkp⟩
    rw [he] at hnn
    exact ⟨by rw [he], hkp, hs.ofN hnn hkp⟩
  · obtain ⟨E1, E2, E3, hs⟩ := hW
    refine (rsend_any E3 (OldB w0) W rb L a n c l hs.r ok.len (hr.keep fun k hk _ => hs.bel.block k hk) (fun k hk hd => by have := (hs.e3 k hd).1; unfold OldB at hk; omega) (by omega) fun x hx => by have := hz x hx; omega).mono ?_
    rintro e w' ⟨rfl, hnn, hkp⟩
    exact ⟨rfl, hs.ofR hnn hkp⟩
end netPlays
end Go.Proofs.Ytmjglgdihlomlaa
