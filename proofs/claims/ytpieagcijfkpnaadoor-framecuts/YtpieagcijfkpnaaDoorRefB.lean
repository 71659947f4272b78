/- The document's own writer of texts: the same bytes. -/
import Derived.Test.YtpieagcijfkpnaaDoorMixA
import Derived.Deep.DrawnRows
namespace Go.Proofs.YtpieagcijfkpnaaDoor
open Go.RowKit
attribute [local go_sem ↓] Go.wp_at_zero Go.wp_at_succ
set_option linter.unusedSimpArgs false

theorem ref_len (W : World) (a : Option Addr) (m cap : Nat) (Z : List Nat) (hm : Z.length = m) (hr : Reads W a (bV Z)) (hnil : a = none → m = 0 ∧ cap = 0) (hs : m ≤ 1000000000) (an : Option Addr) (l : Nat) (hl : l ≤ 1000000000) (hra : Reads W an (iV [(l : Int)])) :
    Calls Tryd.prog 21 #[.slice a m cap, .slice an 1 1] W fun e W' => ∃ v, e = .returned v ∧ W'.ownsRow W.heap.size 5 1 v (Z ++ enc (foldN (l : Int))).length (bV (Z ++ enc (foldN (l : Int)))) ∧ Below W.heap.size W W' := by
  have h := refInt_any a m cap Z W hm hr hnil hs an 1 1 [(l : Int)] rfl (by omega) (by intro y hy; simp at hy; omega) hra
  have e1 : encs [(l : Int)] = enc (foldN (l : Int)) := by simp [encs]
  rw [e1] at h
  exact h

set_option maxRecDepth 100000 in
set_option maxHeartbeats 1000000 in
theorem refBytes_any (a : Option Addr) (len cap : Nat) (xs : List Nat) (w : World) (hl : xs.length = len) (hr : Reads w a (bV xs)) (hnil : a = none → len = 0 ∧ cap = 0) (ar : Option Addr) (lr cr : Nat) (ts : List Txt) (hlr : ts.length = lr)
    (hok : ∀ t ∈ ts, t.ok w) (hrt : Reads w ar (sV ts)) (hsz : (xs ++ encTs ts).length ≤ 1000000000) (hlrs : lr ≤ 1000000) :
    Calls Tryd.prog 23 #[.slice a len cap, .slice ar lr cr] w fun e w' => ∃ a' m' cap', e = .returned (.slice a' m' cap') ∧ Hid ((xs ++ encTs ts).length = m') ∧ Reads w' a' (bV (xs ++ encTs ts)) ∧ Below w.heap.size w w' := by
  have hls : len ≤ 1000000000 := by simp at hsz; omega
  go_enter Tryd.func23, Tryd.ntmps23
  go_wp2_with (at_builtin; go_must (refine append_bytes rfl (.const (.slice none 0 0)) (.tmp 7) rfl w.heap.size (.slice none 0 0) 0 [] rfl (World.ownsRow_nil _ _ _ _) a len cap xs rfl hnil hl hr (by omega) (Nat.le_refl _) ?_; intro v1 w1 ho1 hg1 _))
  have hb1 : Below w.heap.size w w1 := (Below.refl _ _).grown hg1 (Nat.le_refl _) (fun k hk => by cases hk)
  rw [List.nil_append] at ho1
  obtain ⟨a1, cap1, m1, rfl, hm1, hr1, hn1⟩ := reads_own_nil ho1
  go_loopw [5, 6] (fun v i wr => ∃ (k : Nat) (av : Option Addr) (m cv : Nat), v = .slice av m cv ∧ k ≤ lr ∧ i = .int .i64 (k : Nat) ∧ Hid ((xs ++ encTs (ts.take k)).length = m) ∧ (av = none → m = 0 ∧ cv = 0) ∧ Hid (Reads wr av (bV (xs ++ encTs (ts.take k)))) ∧ Below w.heap.size w wr) (fun _ i _ => lr - (intOf i).toNat)
  case atStart => exact ⟨0, a1, m1, cap1, rfl, Nat.zero_le _, rfl, by simpa [encTs] using hm1, hn1, by simpa [encTs] using hr1, hb1⟩
  case round =>
    obtain ⟨k, av, m, cv, rfl, hk, rfl, hm, hnv, hrv, hbel⟩ := hrel
    have hsb := hbel.size
    by_cases hlt : k < lr
    · have hkn : k < ts.length := by omega
      obtain ⟨b, off, har, hcs⟩ := txts_at hrt hkn
      subst har
      have hcw := hcs.out k hkn
      have HS := hide (encTs_snoc ts k hkn)
      have HK := hide (show (xs ++ encTs (ts.take k)).length + (encT ts[k].bs).length ≤ 1000000000 by
        have h1 := encTs_take_le ts (k + 1)
        rw [HS.out] at h1
        simp only [List.length_append] at h1 hsz ⊢; omega)
      have ht := hok ts[k] (List.getElem_mem _)
      obtain ⟨t, hx⟩ : ∃ t, t = ts[k] := ⟨_, rfl⟩
      rw [← hx] at hcw ht HS HK
      clear hx hcs
      obtain ⟨h1, h2, h3, h4, h5⟩ := ht
      have HR := hide (show ∀ w', Below w.heap.size w w' → Reads w' t.a (bV t.bs) from fun w' h => h5.below h)
      obtain ⟨ta, tl, tc, tb⟩ := t
      simp only at hcw h1 h2 h3 h4 h5 HR HS HK
      have HSA := hide (fun (w' : World) (h : Below w.heap.size w w') => (show w'.cell? ⟨b, off + k, none⟩ = some (.slice ta tl tc) from by rw [h.cell (cell_some_lt hcw)]; exact hcw))
      have hcell := HSA.out _ hbel
      have hml : m ≤ 1000000000 ∧ tl ≤ 1000000000 := by
        have := HK.out; have h6 := hm.out; simp only [encT, List.length_append] at this h6; omega
      have HX := hide (show (xs ++ encTs (ts.take k) ++ enc (foldN (tl : Int))).length + tl ≤ 140737488355328 by
        have := HK.out; simp only [encT, List.length_append, h1] at this ⊢; omega)
      have HL := hide h1
      clear h1 h2 h3 h5 hcw
      go_wp2_with fail
      refine wp_region_noPanic ?_
      refine wp_region_held_drew (S := fun w' => w'.cell? ⟨b, off + k, none⟩ = some (.slice ta tl tc)) (by kernel_rfl) (by simpa using hcell) (fun hHeld => ?_)
      refine takeD (i := 0) (d := some 15) (v := ?_) rfl rfl (by kernel_rfl) (by kernel_rfl) (by kernel_rfl) (fun _ _ _ h => h) (Or.inl ⟨by rfl, ?_⟩) (by assumption) ?_
      rotate_left
      · intro w hSw
        go_simp
        try (with_reducible rfl)
      try simp only [Act.put, List.setIfInBounds_toArray, List.set_cons_zero, List.set_cons_succ]
      refine takeD (i := 1) (d := some 16) (v := ?_) rfl rfl (by kernel_rfl) (by kernel_rfl) (by kernel_rfl) (fun _ _ _ h => h) (Or.inl ⟨by rfl, ?_⟩) (by assumption) ?_
      rotate_left
      · intro w hSw
        go_simp
        try (with_reducible rfl)
      try simp only [Act.put, List.setIfInBounds_toArray, List.set_cons_zero, List.set_cons_succ]
      refine takeD (i := 2) (d := some 17) (v := ?_) rfl rfl (by kernel_rfl) (by kernel_rfl) (by kernel_rfl) (fun _ _ _ h => h) (Or.inl ⟨by rfl, ?_⟩) (by assumption) ?_
      rotate_left
      · intro w hSw
        go_simp
        try (with_reducible rfl)
      try simp only [Act.put, List.setIfInBounds_toArray, List.set_cons_zero, List.set_cons_succ]
      refine takeD (i := 3) (d := some 18) (v := ?_) rfl rfl (by kernel_rfl) (by kernel_rfl) (by kernel_rfl) (fun _ _ _ h => h) (Or.inl ⟨by rfl, ?_⟩) (by assumption) ?_
      rotate_left
      · intro w hSw
        go_simp
        try (with_reducible rfl)
      try simp only [Act.put, List.setIfInBounds_toArray, List.set_cons_zero, List.set_cons_succ]
      refine takeD (i := 4) (d := some 19) (v := ?_) rfl rfl (by kernel_rfl) (by kernel_rfl) (by kernel_rfl) (fun _ _ _ h => h) (Or.inl ⟨by rfl, ?_⟩) (by assumption) ?_
      rotate_left
      · intro w hSw
        go_simp
        try (with_reducible rfl)
      try simp only [Act.put, List.setIfInBounds_toArray, List.set_cons_zero, List.set_cons_succ]
      refine takeD (i := 5) (d := some 20) (v := ?_) rfl rfl (by kernel_rfl) (by kernel_rfl) (by kernel_rfl) (fun _ _ _ h => h) (Or.inl ⟨by rfl, ?_⟩) (by assumption) ?_
      rotate_left
      · intro w hSw
        go_simp
        try (with_reducible rfl)
      try simp only [Act.put, List.setIfInBounds_toArray, List.set_cons_zero, List.set_cons_succ]
      refine takeD (i := 8) (d := some 23) (v := ?_) rfl rfl (by kernel_rfl) (by kernel_rfl) (by kernel_rfl) (fun _ _ _ h => h) (Or.inl ⟨by rfl, ?_⟩) (by assumption) ?_
      rotate_left
      · intro w hSw
        go_simp
        try (with_reducible rfl)
      try simp only [Act.put, List.setIfInBounds_toArray, List.set_cons_zero, List.set_cons_succ]
      refine takeD (i := 9) (d := some 24) (v := ?_) rfl rfl (by kernel_rfl) (by kernel_rfl) (by kernel_rfl) (fun _ _ _ h => h) (Or.inl ⟨by rfl, ?_⟩) (by assumption) ?_
      rotate_left
      · intro w hSw
        go_simp
        try (with_reducible rfl)
      try simp only [Act.put, List.setIfInBounds_toArray, List.set_cons_zero, List.set_cons_succ]
      refine takeD (i := 10) (d := some 25) (v := ?_) rfl rfl (by kernel_rfl) (by kernel_rfl) (by kernel_rfl) (fun _ _ _ h => h) (Or.inl ⟨by rfl, ?_⟩) (by assumption) ?_
      rotate_left
      · intro w hSw
        go_simp
        try (with_reducible rfl)
      try simp only [Act.put, List.setIfInBounds_toArray, List.set_cons_zero, List.set_cons_succ]
      refine takeD (i := 11) (d := some 26) (v := ?_) rfl rfl (by kernel_rfl) (by kernel_rfl) (by kernel_rfl) (fun _ _ _ h => h) (Or.inl ⟨by rfl, ?_⟩) (by assumption) ?_
      rotate_left
      · intro w hSw
        go_simp
        try (with_reducible rfl)
      try simp only [Act.put, List.setIfInBounds_toArray, List.set_cons_zero, List.set_cons_succ]
      refine wpAnyH_ready (rs := [6]) (by kernel_rfl) (by simp) ?_
      refine AllReadyH.cons rfl (fun K hK => ?_) AllReadyH.nil
      go_simp
      clear hHeld
      have hB6 : Below w.heap.size w (wr.alloc (.cells #[.int .i64 (tl : Nat)] 3)).drew := (hbel.alloc hsb _).drew
      refine hK.out _ _ (HSA.out _ hB6) (fun hHeld => ?_)
      clear hK K
      try simp only [Act.put, List.setIfInBounds_toArray, List.set_cons_zero, List.set_cons_succ]
      refine wpAnyH_ready (rs := [7]) (by kernel_rfl) (by simp) ?_
      refine AllReadyH.cons rfl (fun K hK => ?_) AllReadyH.nil
      go_simp
      refine (ref_len _ av m cv (xs ++ encTs (ts.take k)) hm.out (by exact (hrv.out.below ((Below.refl _ _).alloc (Nat.le_refl _) _)).drew) hnv (by omega) _ tl (by omega) (by exact (reads_new wr (iV [(tl : Int)]) 3).drew)).mono ?_
      rintro e w7 ⟨v7, rfl, ho7, hb7⟩
      go_wp2_with fail
      clear hHeld
      have hB7 : Below w.heap.size w w7 := hB6.trans (hb7.mono hB6.size)
      refine hK.out _ _ (HSA.out _ hB7) (fun hHeld => ?_)
      clear hK K
      try simp only [Act.put, List.setIfInBounds_toArray, List.set_cons_zero, List.set_cons_succ]
      refine wpAnyH_ready (rs := [12]) (by kernel_rfl) (by simp) ?_
      refine AllReadyH.cons rfl (fun K hK => ?_) AllReadyH.nil
      rw [if_pos (by rfl)]
      refine wp_append_bytes (.tmp 22) (.tmp 26) rfl _ v7 _ _ rfl ho7 ta tl tc tb rfl h4 HL.out (HR.out _ hB7) HX.out hb7.size ?_
      intro v8 w8 ho8 hg8 _
      clear hHeld
      have hB8 : Below w.heap.size w w8 := hB7.grown hg8 hB7.size (fun q hq => by have h9 := (ho7.lt q hq).1; have h10 := hB6.size; omega)
      refine hK.out _ _ (HSA.out _ hB8) (fun hHeld => ?_)
      clear hK K
      try simp only [Act.put, List.setIfInBounds_toArray, List.set_cons_zero, List.set_cons_succ]
      refine takeD (i := 13) (d := some 5) (v := ?_) rfl rfl (by kernel_rfl) (by kernel_rfl) (by kernel_rfl) (fun _ _ _ h => h) (Or.inl ⟨by rfl, ?_⟩) (by assumption) ?_
      rotate_left
      · intro w hSw
        go_simp
        try (with_reducible rfl)
      try simp only [Act.put, List.setIfInBounds_toArray, List.set_cons_zero, List.set_cons_succ]
      refine wpAnyH_done (by kernel_rfl) ?_ _
      refine NoPanic.normal ?_
      have hZ : xs ++ encTs (ts.take (k + 1)) = xs ++ encTs (ts.take k) ++ enc (foldN (tl : Int)) ++ tb := by
        rw [HS.out, encT, HL.out]; simp
      rw [← hZ] at ho8
      obtain ⟨a8, cap8, m8, rfl, hm8, hr8, hn8⟩ := reads_own_nil ho8
      go_wp2
      go_roundw
      case rel => exact ⟨k + 1, a8, m8, cap8, rfl, by omega, by go_num, hm8, hn8, hr8, hB8⟩
      case measure => simp [intOf]; omega
    · go_wp2
      go_ret
      have e : ts.take k = ts := List.take_of_length_le (by omega)
      rw [e] at hm hrv
      exact ⟨_, _, _, rfl, hm, hrv.out, hbel⟩

end Go.Proofs.YtpieagcijfkpnaaDoor
