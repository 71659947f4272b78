/- The document's depths. -/
import Derived.Test.YtfdgkeljnmamiaaDoorRdp
import Derived.Test.YtfdgkeljnmamiaaDoorRci
import Derived.Test.YtfdgkeljnmamiaaDoorDepths
namespace Go.Proofs.YtfdgkeljnmamiaaDoor
open Go.RowKit Go.ChangeShapes Go.WideShapes Go.ChangeAt Go.Deep

/-- The two rows of the document's depths. -/
structure RD (B : Nat) (w : World) (g1 g2 n : Nat) (d : List Int) (g : List Bool) : Prop where
  le : B ≤ g1 ∧ B ≤ g2
  dl : d.length = n
  gl : g.length = n
  dep : w.heap[g1]? = some (.cells (iV d).toArray 3 (0, 0))
  gon : w.heap[g2]? = some (.cells (tV g).toArray 4 (0, 0))
section
variable {B : Nat} {w w' : World} {g1 g2 n : Nat} {d : List Int} {g : List Bool}
theorem RD.below (h : RD B w g1 g2 n d g) (hb : Below w.heap.size w w') : RD B w' g1 g2 n d g := ⟨h.le, h.dl, h.gl, heap_row h.dep hb, heap_row h.gon hb⟩
theorem RD.setD (h : RD B w g1 g2 n d g) (k : Nat) (v : Int) : RD B (w.setCell ⟨g1, k, none⟩ (.int .i64 v)) g1 g2 n (d.set k v) g ∧ Below B w (w.setCell ⟨g1, k, none⟩ (.int .i64 v)) := by
  have h2 := tags_ne h.gon h.dep (by decide)
  refine ⟨⟨h.le, by simp [h.dl], h.gl, ?_, ?_⟩, (Below.refl _ _).setCell (p := ⟨g1, k, none⟩) h.le.1 _⟩
  · have := set_row (i := k) h.dep (.int .i64 v)
    rw [this]; simp [iV, List.map_set]
  · rw [Below.heap_setCell _ _ _ _ (by simpa using h2)]; exact h.gon
theorem RD.setG (h : RD B w g1 g2 n d g) (k : Nat) (v : Bool) : RD B (w.setCell ⟨g2, k, none⟩ (.bool v)) g1 g2 n d (g.set k v) ∧ Below B w (w.setCell ⟨g2, k, none⟩ (.bool v)) := by
  have h2 := tags_ne h.dep h.gon (by decide)
  refine ⟨⟨h.le, h.dl, by simp [h.gl], ?_, ?_⟩, (Below.refl _ _).setCell (p := ⟨g2, k, none⟩) h.le.2 _⟩
  · rw [Below.heap_setCell _ _ _ _ (by simpa using h2)]; exact h.dep
  · have := set_row (i := k) h.gon (.bool v)
    rw [this]; simp [tV, List.map_set]
theorem RD.at (h : RD B w g1 g2 n d g) {k : Nat} (hk : k < n) : w.cell? ⟨g1, k, none⟩ = some (.int .i64 (d.getD k 0)) ∧ w.frozen? ⟨g1, k, none⟩ = false := by
  have hk' : k < d.length := by rw [h.dl]; exact hk
  exact ⟨cell_row h.dep (by simp [iV, hk']), frozen_row h.dep⟩
theorem RD.got (h : RD B w g1 g2 n d g) {k : Nat} (hk : k < n) : w.cell? ⟨g2, k, none⟩ = some (.bool (g.getD k true)) ∧ w.frozen? ⟨g2, k, none⟩ = false := by
  have hk' : k < g.length := by rw [h.gl]; exact hk
  exact ⟨cell_row h.gon (by simp [tV, hk']), frozen_row h.gon⟩
theorem RD.reads (h : RD B w g1 g2 n d g) : Reads w (some ⟨g1, 0, none⟩) (iV d) := .inr ⟨g1, 0, rfl, fun j u hu => by
  rw [Nat.zero_add]; exact cell_row h.dep hu⟩
end
theorem rd_zero (m : Nat) : (List.replicate 1 (-1 : Int) ++ List.replicate (m + 1 - 1) 0).set 0 0 = List.replicate (m + 1) 0 := by
  simp [List.replicate_succ]
theorem rd_step (n k : Nat) (h1 : 1 ≤ k) (h : k < n) : ((List.replicate k (-1 : Int) ++ List.replicate (n - k) 0).set 0 0).set k (-1) = (List.replicate (k + 1) (-1) ++ List.replicate (n - (k + 1)) 0).set 0 0 := by
  rw [List.set_comm _ _ (by omega), rep_set n k h]

/-- How the document's depths end. -/
def RDepPost (w : World) (res : Except (Int × Int) (List Int)) (r : Ending) (w' : World) : Prop :=
  Below w.heap.size w w' ∧ match res with
  | .error q => r = .returned (.tuple #[.slice none 0 0, .int .i64 q.1, .int .i64 q.2])
  | .ok d => ∃ a c, r = .returned (.tuple #[.slice a d.length c, .int .i64 0, .int .i64 0]) ∧ Reads w' a (iV d)
theorem RDepPost.err {w w' : World} {q e : Int} (hb : Below w.heap.size w w') : RDepPost w (.error (q, e)) (.returned (.tuple #[.slice none 0 0, .int .i64 q, .int .i64 e])) w' := ⟨hb, rfl⟩
theorem RDepPost.ok {w w' : World} {d : List Int} {n : Nat} {a : Option Addr} {c : Nat} (hb : Below w.heap.size w w') (hn : d.length = n) (hr : Reads w' a (iV d)) : RDepPost w (.ok d) (.returned (.tuple #[.slice a n c, .int .i64 0, .int .i64 0])) w' := by
  subst hn; exact ⟨hb, a, c, rfl, hr⟩
theorem ins_cells {w : World} {ca : Option Addr} {code : List (Int × Int)} (h : Reads w ca (insV code)) {k : Nat} (hk : k < code.length) : ∃ b off, ca = some ⟨b, off, none⟩ ∧ w.cell? ⟨b, off + k * 2, none⟩ = some (.int .i64 (code.getD k (0, 0)).1) ∧ w.cell? ⟨b, off + k * 2 + 1, none⟩ = some (.int .i64 (code.getD k (0, 0)).2) := by
  have hv : ∀ (c : List (Int × Int)) (k : Nat), k < c.length → (insV c)[k * 2]? = some (.int .i64 (c.getD k (0, 0)).1) ∧ (insV c)[k * 2 + 1]? = some (.int .i64 (c.getD k (0, 0)).2) := by
    intro c
    induction c with
    | nil => intro k hk; simp at hk
    | cons a r ih =>
      intro k hk
      have e : insV (a :: r) = .int .i64 a.1 :: .int .i64 a.2 :: insV r := by simp [insV]
      cases k with
      | zero => rw [e]; exact ⟨rfl, rfl⟩
      | succ k =>
        have := ih k (by simpa using hk)
        rw [e, show (k + 1) * 2 = k * 2 + 1 + 1 by omega]
        simpa [List.getD] using this
  rcases h with h | ⟨b, off, e, h⟩
  · have := (hv code k hk).1
    rw [h] at this; simp at this
  · exact ⟨b, off, e, h _ _ (hv code k hk).1, by rw [Nat.add_assoc]; exact h _ _ (hv code k hk).2⟩

theorem rFrom_bad (d : List Int) (g : List Bool) : ∀ (k a j : Nat), a ≤ j → j < rFrom d g k a → d.getD j 0 < 0 ∨ g.getD j true = true
  | 0, a, j, h1, h2 => by
    have : rFrom d g 0 a = a := rfl
    omega
  | k + 1, a, j, h1, h2 => by
    unfold rFrom at h2
    split at h2
    · rename_i h
      by_cases e : a = j
      · subst e; exact h.2
      · exact rFrom_bad d g k (a + 1) j (by omega) h2
    · omega
theorem row_cell {w : World} {B : Nat} {v : Value} {L : List Int} (h : w.ownsRow B 3 1 v L.length (iV L)) {k : Nat} (hk : k < L.length) : ∃ b c, v = .slice (some ⟨b, 0, none⟩) L.length c ∧ w.cell? ⟨b, k, none⟩ = some (.int .i64 L[k]) := by
  rcases h.2 with ⟨e, h0⟩ | ⟨g, cap, cur, e, h1⟩
  · omega
  · subst e
    have := h.cells (g := g) rfl k (.int .i64 L[k]) (by simp [iV, hk])
    rw [add_none, Nat.zero_add] at this
    exact ⟨g, cap, rfl, this⟩
theorem next_len (op n s : Int) : (nextL op n s).length ≤ 2 := by
  unfold nextL
  split
  · simp
  · split
    · simp
    · split <;> simp
theorem row_form {w : World} {B : Nat} {v : Value} {n : Nat} {xs : List Value} (h : w.ownsRow B 3 1 v n xs) : ∃ a c, v = .slice a n c := by
  rcases h.2 with ⟨e, h0⟩ | ⟨g, cap, cur, e, h1⟩
  · subst h0; exact ⟨_, _, e⟩
  · exact ⟨_, _, e⟩
theorem row_keep {w w' : World} {B n : Nat} {v : Value} {xs : List Value} (h : w.ownsRow B 3 1 v n xs) (hk : ∀ k, B ≤ k → w'.heap[k]? = w.heap[k]?) : w'.ownsRow B 3 1 v n xs := by
  refine ⟨h.1, ?_⟩
  rcases h.2 with h2 | ⟨g, cap, cur, e, h1, h2, h3⟩
  · exact .inl h2
  · exact .inr ⟨g, cap, cur, e, h1, by rw [hk g h1]; exact h2, h3⟩

set_option linter.unusedSimpArgs false in
set_option maxRecDepth 100000 in
set_option maxHeartbeats 16000000 in
theorem rdepths_any (fa : Option Addr) (nf fc : Nat) (mn : Int) (aa : Option Addr) (na ac : Nat) (fu ta : Int) (nm : ByteArray) (ar lo : Int) (ca : Option Addr) (n cc : Nat) (code : List (Int × Int)) (ns : List Int) (w : World)
    (hcl : code.length = n) (hn1 : 1 ≤ n) (hn2 : n ≤ 256) (hns : ns.length = nf) (hA : AReads w fa ns) (hR : Reads w ca (insV code)) (hF : Fwd code) :
    Calls Tryd.prog 26 #[.agg #[.slice fa nf fc, .int .i64 mn, .slice aa na ac, .int .i64 fu, .int .i64 ta], .agg #[.string nm, .int .i64 ar, .int .i64 lo, .slice ca n cc]] w (RDepPost w (rDepths ns code)) := by
  have m1 := mk_ints n (by omega)
  have m2 := mk_bools n (by omega)
  have HRES := hide (show rDepths ns code = rWalk ns code (n + 1) ((List.replicate n (-1 : Int)).set 0 0) (List.replicate n false) from by unfold rDepths; rw [hcl])
  generalize rDepths ns code = res at HRES ⊢
  have HOK := hide (fun (w' : World) (d : List Int) (a : Option Addr) (c : Nat) (hb : Below w.heap.size w w') (hn : d.length = n) (hr : Reads w' a (iV d)) (he : res = .ok d) => show RDepPost w res (.returned (.tuple #[.slice a n c, .int .i64 0, .int .i64 0])) w' from by rw [he]; exact RDepPost.ok hb hn hr)
  have HER := hide (fun (w' : World) (q e : Int) (hb : Below w.heap.size w w') (he : res = .error (q, e)) => show RDepPost w res (.returned (.tuple #[.slice none 0 0, .int .i64 q, .int .i64 e])) w' from by rw [he]; exact RDepPost.err hb)
  generalize hZ : RDepPost w res = Z at HOK HER ⊢
  clear hZ
  have hb2 : Below w.heap.size w ((w.alloc (.cells #[.slice fa nf fc, .int .i64 mn, .slice aa na ac, .int .i64 fu, .int .i64 ta] 25)).alloc (.cells #[.string nm, .int .i64 ar, .int .i64 lo, .slice ca n cc] 43)) := ((Below.refl _ _).alloc (Nat.le_refl _) _).alloc (by simp) _
  have q0 : ((w.alloc (.cells #[.slice fa nf fc, .int .i64 mn, .slice aa na ac, .int .i64 fu, .int .i64 ta] 25)).alloc (.cells #[.string nm, .int .i64 ar, .int .i64 lo, .slice ca n cc] 43)).cell? ⟨w.heap.size, 0, none⟩ = some (.slice fa nf fc) := cell_row (cs := [.slice fa nf fc, .int .i64 mn, .slice aa na ac, .int .i64 fu, .int .i64 ta]) (t := 25) (by rw [Go.heap_alloc_old _ _ (by simp)]; exact heap_alloc_new w _) rfl
  have q3 : ((w.alloc (.cells #[.slice fa nf fc, .int .i64 mn, .slice aa na ac, .int .i64 fu, .int .i64 ta] 25)).alloc (.cells #[.string nm, .int .i64 ar, .int .i64 lo, .slice ca n cc] 43)).cell? ⟨w.heap.size + 1, 3, none⟩ = some (.slice ca n cc) := cell_row (cs := [.string nm, .int .i64 ar, .int .i64 lo, .slice ca n cc]) (t := 43) (by
    have := heap_alloc_new (w.alloc (.cells #[.slice fa nf fc, .int .i64 mn, .slice aa na ac, .int .i64 fu, .int .i64 ta] 25)) (.cells #[.string nm, .int .i64 ar, .int .i64 lo, .slice ca n cc] 43)
    rwa [show (w.alloc (.cells #[.slice fa nf fc, .int .i64 mn, .slice aa na ac, .int .i64 fu, .int .i64 ta] 25)).heap.size = w.heap.size + 1 by simp] at this) rfl
  go_enter Tryd.func26, Tryd.ntmps26
  go_upto_region 1 with fail
  generalize ((w.alloc (.cells #[.slice fa nf fc, .int .i64 mn, .slice aa na ac, .int .i64 fu, .int .i64 ta] 25)).alloc (.cells #[.string nm, .int .i64 ar, .int .i64 lo, .slice ca n cc] 43)) = w2 at hb2 q0 q3 ⊢
  have HB2 := hide hb2
  have HA2 := hide (hA.below hb2)
  have HR2 := hide (hR.below hb2)
  have HCL := hide hcl
  have HNS := hide hns
  have HF := hide hF
  have HQ0 := hide q0
  have HQ3 := hide q3
  clear hA hR hcl hns hF hb2
  have r1 : ((w2.alloc (.cells (iV (List.replicate n 0)).toArray 3)).alloc (.cells (tV (List.replicate n false)).toArray 4)).heap[w2.heap.size]? = some (.cells (iV (List.replicate n 0)).toArray 3 (0, 0)) := by
    rw [Go.heap_alloc_old _ _ (by simp)]; exact heap_alloc_new w2 _
  have r2 : ((w2.alloc (.cells (iV (List.replicate n 0)).toArray 3)).alloc (.cells (tV (List.replicate n false)).toArray 4)).heap[w2.heap.size + 1]? = some (.cells (tV (List.replicate n false)).toArray 4 (0, 0)) := by
    have := heap_alloc_new (w2.alloc (.cells (iV (List.replicate n 0)).toArray 3)) (.cells (tV (List.replicate n false)).toArray 4)
    rwa [show (w2.alloc (.cells (iV (List.replicate n 0)).toArray 3)).heap.size = w2.heap.size + 1 by simp] at this
  have q3b := keep_cell q3 (alloc_below w2 (.cells (iV (List.replicate n 0)).toArray 3))
  have hb4 : Below w2.heap.size w2 ((w2.alloc (.cells (iV (List.replicate n 0)).toArray 3)).alloc (.cells (tV (List.replicate n false)).toArray 4)) := ((Below.refl _ _).alloc (Nat.le_refl _) _).alloc (by simp) _
  go_upto_region 3 with fail
  generalize ((w2.alloc (.cells (iV (List.replicate n 0)).toArray 3)).alloc (.cells (tV (List.replicate n false)).toArray 4)) = w4 at r1 r2 hb4 ⊢
  have HD0 := hide (show RD w2.heap.size w4 w2.heap.size (w2.heap.size + 1) n ((List.replicate 1 (-1 : Int) ++ List.replicate (n - 1) 0).set 0 0) (List.replicate n false) from by
    obtain ⟨m, rfl⟩ : ∃ m, n = m + 1 := ⟨n - 1, by omega⟩
    exact ⟨⟨Nat.le_refl _, Nat.le_succ _⟩, by simp, by simp, by rw [rd_zero]; exact r1, r2⟩)
  have HB4 := hide hb4
  clear r1 r2 hb4 q0 q3 q3b m1 m2
  go_wp2_with fail
  go_loopw [9] (fun i wr => ∃ k : Nat, 1 ≤ k ∧ k ≤ n ∧ i = .int .i64 (k : Nat) ∧ Hid (Below w2.heap.size w2 wr ∧ RD w2.heap.size wr w2.heap.size (w2.heap.size + 1) n ((List.replicate k (-1 : Int) ++ List.replicate (n - k) 0).set 0 0) (List.replicate n false))) (fun i _ => n - (intOf i).toNat)
  case atStart => exact ⟨1, Nat.le_refl _, hn1, rfl, hide ⟨HB4.out, HD0.out⟩⟩
  case round =>
    obtain ⟨k, hk1, hk, rfl, HK⟩ := hrel
    by_cases hlt : k < n
    · have hltI : (k : Int) < (n : Int) := by omega
      obtain ⟨ak, fk⟩ := HK.out.2.at hlt
      have HN := hide (show Below w2.heap.size w2 (wr.setCell ⟨w2.heap.size, k, none⟩ (.int .i64 (-1))) ∧ RD w2.heap.size (wr.setCell ⟨w2.heap.size, k, none⟩ (.int .i64 (-1))) w2.heap.size (w2.heap.size + 1) n ((List.replicate (k + 1) (-1 : Int) ++ List.replicate (n - (k + 1)) 0).set 0 0) (List.replicate n false) from by
        have h1 := HK.out.2.setD k (-1)
        rw [rd_step n k hk1 hlt] at h1
        exact ⟨HK.out.1.trans h1.2, h1.1⟩)
      generalize ((List.replicate k (-1 : Int) ++ List.replicate (n - k) 0).set 0 0).getD k 0 = ov at ak
      clear HK
      go_wp2_with fail
      go_roundw
      case rel => exact ⟨k + 1, by omega, by omega, by go_num, HN⟩
      case measure => simp [intOf]; omega
    · obtain rfl : k = n := by omega
      have hltI : ¬ (k : Int) < (k : Int) := by omega
      have HD1 := hide (show RD w2.heap.size wr w2.heap.size (w2.heap.size + 1) k ((List.replicate k (-1 : Int)).set 0 0) (List.replicate k false) from by have := HK.out.2; simpa using this)
      have HB5 := hide HK.out.1
      clear HK HD0 HB4
      go_wp2_with fail
      go_loopg [] k (fun gg wr => Hid (Below w2.heap.size w2 wr ∧ ∃ (m : Nat) (d : List Int) (g : List Bool), RD w2.heap.size wr w2.heap.size (w2.heap.size + 1) k d g ∧ g.count false ≤ gg ∧ g.count false < m ∧ res = rWalk ns code m d g))
      case atStart => exact hide ⟨HB5.out, k + 1, _, _, HD1.out, by simp, by simp, HRES.out⟩
      case round =>
        clear HD1 HB5 hlt hltI
        obtain ⟨hbr, m, d, g, hD, hc1, hc2, hres⟩ := hrel.out
        obtain ⟨m', rfl⟩ : ∃ m', m = m' + 1 := ⟨m - 1, by omega⟩
        clear hrel
        have HD := hide hD
        have HBR := hide hbr
        have HC := hide (And.intro hc1 hc2)
        have HW := hide (show res = (if rFrom d g d.length 0 < d.length then
            match rOver ns code d (rFrom d g d.length 0) with
            | .error e => .error ((rFrom d g d.length 0 : Nat), e)
            | .ok d' => rWalk ns code m' d' (g.set (rFrom d g d.length 0) true)
          else .ok d) from hres)
        obtain ⟨s1, -, s3⟩ := rFrom_spec d g d.length 0 (Nat.zero_le _) (by omega)
        have HBAD := hide (fun j h => rFrom_bad d g d.length 0 j (Nat.zero_le _) h)
        generalize rFrom d g d.length 0 = q at s1 s3 HW HBAD
        rw [hD.dl] at s1 s3 HW
        have HS3 := hide s3
        clear hD hbr hc1 hc2 hres s3
        go_wp2_with fail
        go_loopw [10] (fun i wx => wx = wr ∧ ∃ a : Nat, a ≤ q ∧ i = .int .i64 (a : Nat)) (fun i _ => q - (intOf i).toNat)
        case atStart => exact ⟨rfl, 0, Nat.zero_le _, rfl⟩
        case round =>
          obtain ⟨rfl, a, ha, rfl⟩ := hrel
          by_cases haq : a < q
          · have han : a < k := by omega
            have hanI : (a : Int) < (k : Int) := by omega
            obtain ⟨c1, -⟩ := HD.out.at han
            obtain ⟨c2, -⟩ := HD.out.got han
            have hbad := HBAD.out a haq
            generalize d.getD a 0 = dv at c1 hbad
            generalize g.getD a true = gv at c2 hbad
            by_cases hd0 : dv < 0
            · clear hbad
              go_wp2_with fail
              go_roundw
              case rel => exact ⟨trivial, a + 1, by omega, by go_num⟩
              case measure => simp [intOf]; omega
            · obtain rfl : gv = true := hbad.resolve_left hd0
              clear hbad
              go_wp2_with fail
              go_roundw
              case rel => exact ⟨trivial, a + 1, by omega, by go_num⟩
              case measure => simp [intOf]; omega
          · obtain rfl : a = q := by omega
            by_cases hqk : a = k
            · subst hqk
              have HR := hide (show res = .ok d from by rw [HW.out, if_neg (by omega)])
              have hII : ((a : Int) == (a : Int)) = true := by simp
              have hltI : ¬ (a : Int) < (a : Int) := by omega
              clear HW HS3 HBAD HC
              go_wp2_with fail
              refine bodyPost_ret (v := .tuple #[.slice (some ⟨w2.heap.size, 0, none⟩) a a, .int .i64 0, .int .i64 0]) (by simp [results, Tryd.results26, go_sem]) rfl ?_
              exact HOK.out _ d _ _ (HB2.out.trans (HBR.out.mono HB2.out.size)) HD.out.dl HD.out.reads HR.out
            · have hak : a < k := by omega
              have hanI : (a : Int) < (k : Int) := by omega
              have hne : ((a : Int) == (k : Int)) = false := by simp; omega
              obtain ⟨hdn, hgf⟩ := HS3.out hak
              obtain ⟨c1, -⟩ := HD.out.at hak
              obtain ⟨c2, c2f⟩ := HD.out.got hak
              have HDG := hide (HD.out.setG a true)
              have HCS := hide (count_set g a (by rw [HD.out.gl]; exact hak) hgf)
              rw [hgf] at c2
              have HWL := hide (show res = (match rOver ns code d a with
                | .error e => .error ((a : Int), e)
                | .ok d' => rWalk ns code m' d' (g.set a true)) from by rw [HW.out, if_pos hak])
              have hd0 : ¬ d.getD a 0 < 0 := by omega
              have HDN := hide hdn
              have HOV := hide (show rOver ns code d a = (if d.getD a 0 < popsOf (code.getD a (0, 0)).1 (code.getD a (0, 0)).2 ns ∨ 32 < rBeh ns (code.getD a (0, 0)) (d.getD a 0) then .error 12
                else rNext code.length (rBeh ns (code.getD a (0, 0)) (d.getD a 0)) (nextL (code.getD a (0, 0)).1 (code.getD a (0, 0)).2 ((a + 1 : Nat) : Int)) d) from rfl)
              have HFW := hide (HF.out a (by rw [HCL.out]; exact hak))
              obtain ⟨cb, co, rfl, k1, k2⟩ := ins_cells HR2.out (show a < code.length by rw [HCL.out]; exact hak)
              have i1 := keep_cell k1 HBR.out
              have i2 := keep_cell k2 HBR.out
              have HCB := hide (cell_some_lt k1)
              have HBEH := hide (show rBeh ns (code.getD a (0, 0)) (d.getD a 0) = wrap64 (wrap64 (d.getD a 0 - popsOf (code.getD a (0, 0)).1 (code.getD a (0, 0)).2 ns) + (kindOf (code.getD a (0, 0)).1).pushes) from rfl)
              generalize rBeh ns (code.getD a (0, 0)) (d.getD a 0) = beh at HOV HBEH
              generalize code.getD a (0, 0) = ins at HOV HBEH HFW i1 i2 k1 k2
              obtain ⟨op, nn⟩ := ins
              dsimp only at HOV HBEH HFW i1 i2 k1 k2
              have HI2 := hide (And.intro k1 k2)
              clear k1 k2
              have hd0' := hd0
              have HDV := hide (show ∀ W : World, ∀ g', RD w2.heap.size W w2.heap.size (w2.heap.size + 1) k d g' → W.cell? ⟨w2.heap.size, a, none⟩ = some (.int .i64 (d.getD a 0)) from fun W g' h => (h.at hak).1)
              generalize d.getD a 0 = dv at c1 HOV HBEH HDV HDN hd0 hd0'
              clear HW HS3 HBAD hdn hgf
              have p0 := keep_cell HQ0.out HBR.out
              have p3 := keep_cell HQ3.out HBR.out
              go_upto_region 13 with fail
              generalize hw5 : wr.setCell ⟨w2.heap.size + 1, a, none⟩ (.bool true) = w5 at HDG ⊢
              have HB5 := hide (HBR.out.trans HDG.out.2)
              have HD5 := hide HDG.out.1
              have e0 := keep_cell HQ0.out HB5.out
              have e3 := keep_cell HQ3.out HB5.out
              have hcl5 : w5.cell? ⟨cb, co + a * 2, none⟩ = some (.int .i64 op) ∧ w5.cell? ⟨cb, co + a * 2 + 1, none⟩ = some (.int .i64 nn) := by
                have hb : Below w2.heap.size wr w5 := by rw [← hw5]; exact (HD.out.setG a true).2
                have hlt1 := HCB.out
                exact ⟨(World.cell?_of_block (w := w2) (a := ⟨cb, co + a * 2, none⟩) (HB5.out.block cb hlt1)).trans HI2.out.1, (World.cell?_of_block (w := w2) (a := ⟨cb, co + a * 2 + 1, none⟩) (HB5.out.block cb hlt1)).trans HI2.out.2⟩
              obtain ⟨i1b, i2b⟩ := hcl5
              have C41 := hide (refPops_any op nn fa nf fc ns w5.drew HNS.out (HA2.out.below (HB5.out.trans ((Below.refl _ _).drew.mono HB5.out.size))))
              generalize popsOf op nn ns = po at C41 HOV HBEH
              clear i1 i2 c1 c2 c2f p0 p3 hw5 HDG
              go_region_held3 (fun W => W.cell? ⟨w.heap.size, 0, none⟩ = some (.slice fa nf fc) ∧ W.cell? ⟨w.heap.size + 1, 3, none⟩ = some (.slice (some ⟨cb, co, none⟩) k cc) ∧ W.cell? ⟨cb, co + a * 2, none⟩ = some (.int .i64 op) ∧ W.cell? ⟨cb, co + a * 2 + 1, none⟩ = some (.int .i64 nn)) (first | exact ⟨e0, e3, i1b, i2b⟩ | exact ⟨f0, f3, j1, j2⟩) ((go_at_call 41; (with_reducible refine C41.out.mono ?_); rintro e w6 ⟨rfl, hb6⟩; have hb6' : Below w5.heap.size w5 w6 := ⟨hb6.os, hb6.tape, hb6.output, hb6.size, hb6.block⟩; have f0 := keep_cell e0 hb6'; have f3 := keep_cell e3 hb6'; have j1 := keep_cell i1b hb6'; have j2 := keep_cell i2b hb6'; have HB6 := hide hb6'; clear hb6 hb6'))
              have HB6w := hide (HB5.out.trans (HB6.out.mono HB5.out.size))
              have HD6 := hide (HD5.out.below HB6.out)
              have c6 := HDV.out _ _ HD6.out
              have C42 := hide (refPushes_any op nn w6.drew)
              obtain ⟨s1, hs1⟩ : ∃ s, s = wrap64 (dv - po) := ⟨_, rfl⟩
              have hw1 : IntKind.i64.wrap (dv - po) = s1 := by rw [hs1]; exact IntWalk.i64_left _
              have HBE2 := hide (show beh = wrap64 (s1 + (kindOf op).pushes) from by rw [HBEH.out, hs1])
              generalize (kindOf op).pushes = pu at C42 HBE2
              have hw2 : IntKind.i64.wrap (s1 + pu) = beh := by rw [HBE2.out]; exact IntWalk.i64_left _
              clear HBEH HBE2 hs1 C41 e0 e3 i1b i2b
              go_upto_region 14 with fail
              go_region_held3 (fun W => W.cell? ⟨w2.heap.size, a, none⟩ = some (.int .i64 dv) ∧ W.cell? ⟨w.heap.size + 1, 3, none⟩ = some (.slice (some ⟨cb, co, none⟩) k cc) ∧ W.cell? ⟨cb, co + a * 2, none⟩ = some (.int .i64 op) ∧ W.cell? ⟨cb, co + a * 2 + 1, none⟩ = some (.int .i64 nn)) (first | exact ⟨c6, f3, j1, j2⟩ | exact ⟨c7, g3, l1, l2⟩) ((go_at_call 42; (with_reducible refine C42.out.mono ?_); rintro e w7 ⟨rfl, hb7⟩; have hb7' : Below w6.heap.size w6 w7 := ⟨hb7.os, hb7.tape, hb7.output, hb7.size, hb7.block⟩; have c7 := keep_cell c6 hb7'; have g3 := keep_cell f3 hb7'; have l1 := keep_cell j1 hb7'; have l2 := keep_cell j2 hb7'; have HB7 := hide hb7'; clear hb7 hb7'))
              have HB7w := hide (HB6w.out.trans (HB7.out.mono HB6w.out.size))
              have HD7 := hide (HD6.out.below HB7.out)
              clear hw1 hw2 C42 c6 f0 f3 j1 j2 HD6 HB7 HB6 HB6w HD5 HB5
              by_cases hov : dv < po ∨ 32 < beh
              · have HR := hide (show res = .error ((a : Int), 12) from by rw [HWL.out, HOV.out, if_pos hov])
                clear HWL HOV
                by_cases h1 : dv < po
                · go_wp2_with fail
                  refine bodyPost_ret (v := .tuple #[.slice none 0 0, .int .i64 (a : Int), .int .i64 12]) (by simp [results, Tryd.results26, go_sem]) rfl ?_
                  exact HER.out _ _ _ (HB2.out.trans (HB7w.out.mono HB2.out.size)) HR.out
                · have h2 : 32 < beh := hov.resolve_left h1
                  clear hov
                  go_wp2_with fail
                  refine bodyPost_ret (v := .tuple #[.slice none 0 0, .int .i64 (a : Int), .int .i64 12]) (by simp [results, Tryd.results26, go_sem]) rfl ?_
                  exact HER.out _ _ _ (HB2.out.trans (HB7w.out.mono HB2.out.size)) HR.out
              · have h1 : ¬ dv < po := fun e => hov (.inl e)
                have h2 : ¬ 32 < beh := fun e => hov (.inr e)
                have hwa : wrap64 ((a : Int) + 1) = ((a + 1 : Nat) : Int) := by unfold wrap64; omega
                have C43 := hide (refNext_any op nn (a : Int) w7)
                rw [hwa] at C43
                have HO2 := hide (show rOver ns code d a = rNext code.length beh (nextL op nn ((a + 1 : Nat) : Int)) d from by rw [HOV.out, if_neg hov])
                have HLL := hide (next_len op nn ((a + 1 : Nat) : Int))
                generalize nextL op nn ((a + 1 : Nat) : Int) = L at C43 HO2 HFW HLL
                clear hov hwa HOV HDV
                unfold Own at C43
                go_upto_region 18 with (go_at_call 43; go_must ((with_reducible refine C43.out.mono ?_); rintro e w8 ⟨v8, rfl, ho8, hb8⟩; obtain ⟨a8, c8, rfl⟩ := row_form ho8; have HO8 := hide ho8; have HB8 := hide hb8; clear ho8 hb8))
                have HB8w := hide (HB7w.out.trans (HB8.out.mono HB7w.out.size))
                have HD8 := hide (HD7.out.below HB8.out)
                have HLT := hide (show w2.heap.size < w7.heap.size from lt_row HD7.out.dep)
                obtain ⟨nL, hnL⟩ : ∃ m, m = L.length := ⟨_, rfl⟩
                have hnl2 : nL ≤ 2 := by rw [hnL]; exact HLL.out
                have HNL := hide hnL
                rw [← hnL]
                rw [← hnL] at HO8
                clear hnL C43 c7 g3 l1 l2 HD7 HB7w h1 h2
                go_wp2_with fail
                go_loopw [14] (fun i wx => ∃ (j : Nat) (d' : List Int), j ≤ nL ∧ i = .int .i64 (j : Nat) ∧ Hid (Below w2.heap.size w2 wx ∧ RD w2.heap.size wx w2.heap.size (w2.heap.size + 1) k d' (g.set a true) ∧ wx.ownsRow w7.heap.size 3 1 (.slice a8 nL c8) nL (iV L) ∧ rOver ns code d a = rNext code.length beh (L.drop j) d')) (fun i _ => nL - (intOf i).toNat)
                case atStart => exact ⟨0, d, Nat.zero_le _, rfl, hide ⟨HB8w.out, HD8.out, HO8.out, HO2.out⟩⟩
                case round =>
                  obtain ⟨j, d', hj, rfl, HJ⟩ := hrel
                  by_cases hjl : j < nL
                  · have hjI : (j : Int) < (nL : Int) := by omega
                    have hjL : j < L.length := by rw [← HNL.out]; exact hjl
                    have hrow := HJ.out.2.2.1
                    rw [HNL.out] at hrow
                    obtain ⟨b8, c8', e8, t1⟩ := row_cell hrow hjL
                    obtain ⟨rfl, -⟩ : a8 = some ⟨b8, 0, none⟩ ∧ c8 = c8' := by simpa using e8
                    have ht0 := HFW.out L[j] (List.getElem_mem _)
                    have HN := hide (show rOver ns code d a = (if (code.length : Int) ≤ L[j] then .error 11 else if 0 ≤ d'.getD L[j].toNat 0 ∧ d'.getD L[j].toNat 0 ≠ beh then .error 12 else rNext code.length beh (L.drop (j + 1)) (d'.set L[j].toNat beh)) from by
                      rw [HJ.out.2.2.2, List.drop_eq_getElem_cons hjL, rNext])
                    clear hrow e8
                    generalize L[j] = t at t1 ht0 HN
                    obtain ⟨tn, rfl⟩ : ∃ tn : Nat, t = (tn : Int) := ⟨t.toNat, by omega⟩
                    rw [HCL.out] at HN
                    rw [Int.toNat_natCast] at HN
                    by_cases hin : k ≤ tn
                    · have HR := hide (show res = .error ((a : Int), 11) from by rw [HWL.out, HN.out, if_pos (by omega)])
                      have hinI : (tn : Int) ≥ (k : Int) := by omega
                      clear HWL HN
                      go_wp2_with fail
                      refine bodyPost_ret (v := .tuple #[.slice none 0 0, .int .i64 (a : Int), .int .i64 11]) (by simp [results, Tryd.results26, go_sem]) rfl ?_
                      exact HER.out _ _ _ (HB2.out.trans (HJ.out.1.mono HB2.out.size)) HR.out
                    · have hlt : tn < k := by omega
                      have hltI : (tn : Int) < (k : Int) := by omega
                      have hinI : ¬ (tn : Int) ≥ (k : Int) := by omega
                      obtain ⟨dt, dtf⟩ := HJ.out.2.1.at hlt
                      have HSET := hide (HJ.out.2.1.setD tn beh)
                      have HROW := hide (show (wr.setCell ⟨w2.heap.size, tn, none⟩ (.int .i64 beh)).ownsRow w7.heap.size 3 1 (.slice (some ⟨b8, 0, none⟩) nL c8) nL (iV L) from row_keep HJ.out.2.2.1 (fun q hq => Below.heap_setCell _ _ _ _ (by show q ≠ w2.heap.size; have := HLT.out; omega)))
                      generalize hdt : d'.getD tn 0 = dtv at dt HN
                      clear hdt
                      by_cases hz : 0 ≤ dtv ∧ dtv ≠ beh
                      · have HR := hide (show res = .error ((a : Int), 12) from by rw [HWL.out, HN.out, if_neg (by omega), if_pos hz])
                        have z1 : dtv ≥ 0 := hz.1
                        have z2 : (dtv != beh) = true := by simpa using hz.2
                        have z3 : (dtv == beh) = false := by simpa using hz.2
                        clear HWL HN hz HSET HROW
                        go_wp2_with fail
                        refine bodyPost_ret (v := .tuple #[.slice none 0 0, .int .i64 (a : Int), .int .i64 12]) (by simp [results, Tryd.results26, go_sem]) rfl ?_
                        exact HER.out _ _ _ (HB2.out.trans (HJ.out.1.mono HB2.out.size)) HR.out
                      · have HNX := hide (show Below w2.heap.size w2 (wr.setCell ⟨w2.heap.size, tn, none⟩ (.int .i64 beh)) ∧ RD w2.heap.size (wr.setCell ⟨w2.heap.size, tn, none⟩ (.int .i64 beh)) w2.heap.size (w2.heap.size + 1) k (d'.set tn beh) (g.set a true) ∧ (wr.setCell ⟨w2.heap.size, tn, none⟩ (.int .i64 beh)).ownsRow w7.heap.size 3 1 (.slice (some ⟨b8, 0, none⟩) nL c8) nL (iV L) ∧ rOver ns code d a = rNext code.length beh (L.drop (j + 1)) (d'.set tn beh) from
                          ⟨HJ.out.1.trans HSET.out.2, HSET.out.1, HROW.out, by rw [HN.out, if_neg (by omega), if_neg hz, HCL.out]⟩)
                        clear HN HSET HROW HJ
                        by_cases z1 : dtv ≥ 0
                        · obtain rfl : dtv = beh := by
                            by_cases e : dtv = beh
                            · exact e
                            · exact absurd ⟨z1, e⟩ hz
                          have z3 : (dtv != dtv) = false := by simp
                          clear hz
                          go_wp2_with fail
                          go_roundw
                          case rel => exact ⟨j + 1, _, by omega, by go_num, HNX⟩
                          case measure => simp [intOf]; omega
                        · clear hz
                          go_wp2_with fail
                          go_roundw
                          case rel => exact ⟨j + 1, _, by omega, by go_num, HNX⟩
                          case measure => simp [intOf]; omega
                  · obtain rfl : j = nL := by omega
                    have hjI : ¬ (j : Int) < (j : Int) := by omega
                    have HFIN := hide (show Below w2.heap.size w2 wr ∧ ∃ (m : Nat) (d : List Int) (g' : List Bool), RD w2.heap.size wr w2.heap.size (w2.heap.size + 1) k d g' ∧ g'.count false ≤ (g.set a true).count false ∧ g'.count false < m ∧ res = rWalk ns code m d g' from by
                      have h1 := HJ.out.2.2.2
                      rw [List.drop_of_length_le (by have := HNL.out; omega)] at h1
                      exact ⟨HJ.out.1, m', d', g.set a true, HJ.out.2.1, Nat.le_refl _, by have := HCS.out; have := HC.out; omega, by rw [HWL.out, h1]; rfl⟩)
                    have HCS2 := hide (show (g.set a true).count false < g.count false from by have := HCS.out; omega)
                    clear HJ
                    go_wp2_with fail
                    go_roundg ((g.set a true).count false)
                    case measure => have := HCS2.out; have := HC.out; omega
                    case rel => exact HFIN
end Go.Proofs.YtfdgkeljnmamiaaDoor
