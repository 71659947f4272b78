/- The walk of PackMixed, continued: no fewer texts than numbers. -/
import Derived.Test.YtdhekagkhhejpaaMixedW
namespace Go.Proofs.Ytdhekagkhhejpaa
namespace packMixed
open Go.RowKit
attribute [local go_sem ↓] Go.wp_at_zero Go.wp_at_succ
set_option linter.unusedSimpArgs false

set_option maxRecDepth 100000 in
set_option maxHeartbeats 2000000 in
theorem walk_ge (a0 : Option Addr) (l0 c0 : Nat) (ns : List Int) (a1 : Option Addr) (l1 c1 : Nat) (ts : List Txt) (w : World) (hl0 : ns.length = l0) (hin : In64 ns) (hr0 : Reads w a0 (iV ns)) (hl1 : ts.length = l1) (hok : ∀ t ∈ ts, t.ok w) (hr1 : Reads w a1 (sV ts)) (hs0 : l0 ≤ 100) (hs1 : l1 ≤ 100) (hcmp : ¬ l1 < l0) :
    Calls Try.prog 5 #[.slice a0 l0 c0, .slice a1 l1 c1] w fun e w' => e = .returned (.bool true) ∧ Below w.heap.size w w' := by
  obtain ⟨bss, hbss⟩ : ∃ bss, bss = ts.map Txt.bs := ⟨_, rfl⟩
  have HB := hide hbss
  have HL0 := hide hl0
  have HL1 := hide hl1
  have HI := hide hin
  have HO := hide hok
  have HR0 := hide hr0
  have HR1 := hide hr1
  clear hbss hl0 hl1 hin hok hr0 hr1
  go_enter Try.func5, Try.ntmps5
  go_wp2_with (go_at_call 7; refine (alive_any _).mono ?_; rintro e w1 ⟨rfl, hb1⟩)
  go_loopw [6, 8] (fun v i wr => ∃ (k : Nat) (a : Option Addr) (m cap : Nat), v = .slice a m cap ∧ i = .int .i64 (k : Nat) ∧ k ≤ l0 ∧ Hid ((mixF ns bss 0 k).length = m) ∧ m ≤ 530 * k ∧ Hid (Reads wr a (bV (mixF ns bss 0 k))) ∧ Below w.heap.size w wr) (fun _ i _ => l0 - (intOf i).toNat)
  case atStart => exact ⟨0, none, 0, 0, rfl, rfl, by omega, hide rfl, by omega, hide (.inl rfl), hb1⟩
  case round =>
    obtain ⟨k, a, m, cap, rfl, rfl, hk, hm, hmk, hr, hbel⟩ := hrel
    by_cases hlt : k < l0
    · have hk0 : k < ns.length := by have := HL0.out; omega
      have hk1 : k < ts.length := by have := HL1.out; omega
      have hk0' : k < l0 := by omega
      have hk1' : k < l1 := by omega
      obtain ⟨b1, off1, ha1, hc1⟩ := txts_at HR1.out hk1
      subst ha1
      have hcell1 : wr.cell? ⟨b1, off1 + k, none⟩ = some (.slice ts[k].a ts[k].len ts[k].cap) := by
        have h0 := hc1.out k hk1
        rw [hbel.cell (cell_some_lt h0)]; exact h0
      have ht := hide (HO.out ts[k] (List.getElem_mem _))
      have hbk := hide (show bss.getD k [] = ts[k].bs by rw [HB.out]; simp [List.getD, hk1])
      obtain ⟨t, hx⟩ : ∃ t, t = ts[k] := ⟨_, rfl⟩
      rw [← hx] at hcell1 ht hbk
      clear hx hc1
      obtain ⟨ta, tl, tc, tb⟩ := t
      simp only at hcell1 hbk
      by_cases hbig : 500 < tl
      · go_wp2
        go_ret
        exact ⟨rfl, hbel⟩
      · obtain ⟨b0, off0, ha0, hc0⟩ := reads_at HR0.out hk0
        subst ha0
        have hcell0 : wr.cell? ⟨b0, off0 + k, none⟩ = some (.int .i64 ns[k]) := by
          have h0 := hc0.out k (.int .i64 ns[k]) (by simp [iV, hk0])
          rw [hbel.cell (cell_some_lt h0)]; exact h0
        have hnk := hide (HI.out ns[k] (List.getElem_mem _))
        have hxk := hide (show ns.getD k 0 = ns[k] by simp [List.getD, hk0])
        obtain ⟨x, hx⟩ : ∃ x, x = ns[k] := ⟨_, rfl⟩
        rw [← hx] at hcell0 hnk hxk
        clear hx hc0
        go_wp2_with fail
        refine wp_region_noPanic ?_
        refine wp_region_held_drew (S := fun w' => w'.cell? ⟨b0, off0 + k, none⟩ = some (.int .i64 x) ∧ w'.cell? ⟨b1, off1 + k, none⟩ = some (.slice ta tl tc)) (by kernel_rfl) ⟨by simpa using hcell0, by simpa using hcell1⟩ (fun hHeld => ?_)
        refine takeD (i := 0) (d := some 47) (v := ?_) rfl rfl (by kernel_rfl) (by kernel_rfl) (by kernel_rfl) (fun _ _ _ h => h) (Or.inl ⟨by rfl, ?_⟩) (by assumption) ?_
        rotate_left
        · intro w hSw
          go_simp
          try (with_reducible rfl)
        try simp only [Act.put, List.setIfInBounds_toArray, List.set_cons_zero, List.set_cons_succ]
        refine takeD (i := 1) (d := some 48) (v := ?_) rfl rfl (by kernel_rfl) (by kernel_rfl) (by kernel_rfl) (fun _ _ _ h => h) (Or.inl ⟨by rfl, ?_⟩) (by assumption) ?_
        rotate_left
        · intro w hSw
          go_simp
          try (with_reducible rfl)
        try simp only [Act.put, List.setIfInBounds_toArray, List.set_cons_zero, List.set_cons_succ]
        refine takeD (i := 2) (d := some 49) (v := ?_) rfl rfl (by kernel_rfl) (by kernel_rfl) (by kernel_rfl) (fun _ _ _ h => h) (Or.inl ⟨by rfl, ?_⟩) (by assumption) ?_
        rotate_left
        · intro w hSw
          go_simp
          try (with_reducible rfl)
        try simp only [Act.put, List.setIfInBounds_toArray, List.set_cons_zero, List.set_cons_succ]
        refine takeD (i := 3) (d := some 50) (v := ?_) rfl rfl (by kernel_rfl) (by kernel_rfl) (by kernel_rfl) (fun _ _ _ h => h) (Or.inl ⟨by rfl, ?_⟩) (by assumption) ?_
        rotate_left
        · intro w hSw
          go_simp
          try (with_reducible rfl)
        try simp only [Act.put, List.setIfInBounds_toArray, List.set_cons_zero, List.set_cons_succ]
        refine takeD (i := 4) (d := some 51) (v := ?_) rfl rfl (by kernel_rfl) (by kernel_rfl) (by kernel_rfl) (fun _ _ _ h => h) (Or.inl ⟨by rfl, ?_⟩) (by assumption) ?_
        rotate_left
        · intro w hSw
          go_simp
          try (with_reducible rfl)
        try simp only [Act.put, List.setIfInBounds_toArray, List.set_cons_zero, List.set_cons_succ]
        refine takeD (i := 5) (d := some 52) (v := ?_) rfl rfl (by kernel_rfl) (by kernel_rfl) (by kernel_rfl) (fun _ _ _ h => h) (Or.inl ⟨by rfl, ?_⟩) (by assumption) ?_
        rotate_left
        · intro w hSw
          go_simp
          try (with_reducible rfl)
        try simp only [Act.put, List.setIfInBounds_toArray, List.set_cons_zero, List.set_cons_succ]
        refine takeD (i := 8) (d := some 55) (v := ?_) rfl rfl (by kernel_rfl) (by kernel_rfl) (by kernel_rfl) (fun _ _ _ h => h) (Or.inl ⟨by rfl, ?_⟩) (by assumption) ?_
        rotate_left
        · intro w hSw
          go_simp
          try (with_reducible rfl)
        try simp only [Act.put, List.setIfInBounds_toArray, List.set_cons_zero, List.set_cons_succ]
        refine takeD (i := 9) (d := some 56) (v := ?_) rfl rfl (by kernel_rfl) (by kernel_rfl) (by kernel_rfl) (fun _ _ _ h => h) (Or.inl ⟨by rfl, ?_⟩) (by assumption) ?_
        rotate_left
        · intro w hSw
          go_simp
          try (with_reducible rfl)
        try simp only [Act.put, List.setIfInBounds_toArray, List.set_cons_zero, List.set_cons_succ]
        refine takeD (i := 10) (d := some 57) (v := ?_) rfl rfl (by kernel_rfl) (by kernel_rfl) (by kernel_rfl) (fun _ _ _ h => h) (Or.inl ⟨by rfl, ?_⟩) (by assumption) ?_
        rotate_left
        · intro w hSw
          go_simp
          try (with_reducible rfl)
        try simp only [Act.put, List.setIfInBounds_toArray, List.set_cons_zero, List.set_cons_succ]
        refine takeD (i := 11) (d := some 58) (v := ?_) rfl rfl (by kernel_rfl) (by kernel_rfl) (by kernel_rfl) (fun _ _ _ h => h) (Or.inl ⟨by rfl, ?_⟩) (by assumption) ?_
        rotate_left
        · intro w hSw
          go_simp
          try (with_reducible rfl)
        try simp only [Act.put, List.setIfInBounds_toArray, List.set_cons_zero, List.set_cons_succ]
        have hsz := hbel.size
        have HSA := hide (keep_cells hbel hcell0 hcell1 HR0.out HR1.out hk0 hk1)
        have hok' := hide (fun w' (h : Below w.heap.size w w') => ht.out.below h)
        refine wpAnyH_ready (rs := [6, 12]) (by kernel_rfl) (by simp) ?_
        refine AllReadyH.cons rfl (fun K hK => ?_) (AllReadyH.cons rfl (fun K hK => ?_) AllReadyH.nil)
        · go_simp
          clear hHeld
          have hB6 := (show Below w.heap.size w (wr.alloc (.cells #[.int .i64 x, .int .i64 (k : Nat)] 3)).drew from (hbel.alloc hsz _).drew)
          refine hK.out _ _ (HSA.out _ hB6) (fun hHeld => ?_)
          clear hK K
          try simp only [Act.put, List.setIfInBounds_toArray, List.set_cons_zero, List.set_cons_succ]
          refine wpAnyH_ready (rs := [7, 12]) (by kernel_rfl) (by simp) ?_
          refine AllReadyH.cons rfl (fun K hK => ?_) (AllReadyH.cons rfl (fun K hK => ?_) AllReadyH.nil)
          · go_simp
            refine (mix_int _ a m cap (mixF ns bss 0 k) hm.out (by exact (hr.out.below ((Below.refl _ _).alloc (Nat.le_refl _) _)).drew) (by omega) _ x k hnk.out (by omega) (by exact (reads_new wr (iV [x, (k : Int)]) 3).drew)).mono ?_
            rintro e w7 ⟨g7, cap7, m7, rfl, h7, hr7, hb7⟩
            go_wp2_with fail
            clear hHeld
            have hB7 : Below w.heap.size w w7 := hB6.trans (hb7.mono hB6.size)
            refine hK.out _ _ (HSA.out _ hB7) (fun hHeld => ?_)
            clear hK K
            try simp only [Act.put, List.setIfInBounds_toArray, List.set_cons_zero, List.set_cons_succ]
            refine wpAnyH_ready (rs := [12]) (by kernel_rfl) (by simp) ?_
            refine AllReadyH.cons rfl (fun K hK => ?_) AllReadyH.nil
            go_simp
            clear hHeld
            have hB9 := (show Below w.heap.size w (w7.alloc (.cells #[.slice ta tl tc] 22)) from hB7.alloc hB7.size _)
            refine hK.out _ _ (HSA.out _ hB9) (fun hHeld => ?_)
            clear hK K
            try simp only [Act.put, List.setIfInBounds_toArray, List.set_cons_zero, List.set_cons_succ]
            refine wpAnyH_ready (rs := [13]) (by kernel_rfl) (by simp) ?_
            refine AllReadyH.cons rfl (fun K hK => ?_) AllReadyH.nil
            go_simp
            refine (mix_bytes _ _ m7 cap7 (mixF ns bss 0 k ++ (enc (foldN x) ++ enc (foldN (k : Int)))) h7.out (by exact hr7.out.below ((Below.refl _ _).alloc (Nat.le_refl _) _)) (mix_sz h7.out hm.out hmk (by omega)) _ ⟨ta, tl, tc, tb⟩ (by exact hok'.out _ hB9) (by show tl ≤ 500; omega) (by exact reads_new w7 (sV [⟨ta, tl, tc, tb⟩]) 22)).mono ?_
            rintro e w8 ⟨g8, cap8, m8, rfl, h8, hr8, hb8⟩
            go_wp2_with fail
            clear hHeld
            have hB8 : Below w.heap.size w w8 := hB9.trans (hb8.mono hB9.size)
            refine hK.out _ _ (HSA.out _ hB8) (fun hHeld => ?_)
            clear hK K
            try simp only [Act.put, List.setIfInBounds_toArray, List.set_cons_zero, List.set_cons_succ]
            refine takeD (i := 14) (d := some 6) (v := ?_) rfl rfl (by kernel_rfl) (by kernel_rfl) (by kernel_rfl) (fun _ _ _ h => h) (Or.inl ⟨by rfl, ?_⟩) (by assumption) ?_
            rotate_left
            · intro w hSw
              go_simp
              try (with_reducible rfl)
            try simp only [Act.put, List.setIfInBounds_toArray, List.set_cons_zero, List.set_cons_succ]
            refine wpAnyH_done (by kernel_rfl) ?_ _
            refine NoPanic.normal ?_
            go_wp2
            go_roundw
            case rel => exact ⟨k + 1, _, _, _, rfl, by go_num, by omega, mix_len hxk.out hbk.out h8.out, mix_le hxk.out hbk.out ht.out.1 (by show tl ≤ 500; omega) h8.out hm.out hmk, mix_reads hxk.out hbk.out hr8.out, hB8⟩
            case measure => simp [intOf]; omega
          · go_simp
            clear hHeld
            have hB9 := (show Below w.heap.size w ((wr.alloc (.cells #[.int .i64 x, .int .i64 (k : Nat)] 3)).alloc (.cells #[.slice ta tl tc] 22)).drew from ((hbel.alloc hsz _).alloc (by simp; omega) _).drew)
            refine hK.out _ _ (HSA.out _ hB9) (fun hHeld => ?_)
            clear hK K
            try simp only [Act.put, List.setIfInBounds_toArray, List.set_cons_zero, List.set_cons_succ]
            refine wpAnyH_ready (rs := [7]) (by kernel_rfl) (by simp) ?_
            refine AllReadyH.cons rfl (fun K hK => ?_) AllReadyH.nil
            go_simp
            refine (mix_int _ a m cap (mixF ns bss 0 k) hm.out (by exact ((hr.out.below ((Below.refl _ _).alloc (Nat.le_refl _) _)).below ((Below.refl _ _).alloc (Nat.le_refl _) _)).drew) (by omega) _ x k hnk.out (by omega) (by exact ((reads_new wr (iV [x, (k : Int)]) 3).below ((Below.refl _ _).alloc (Nat.le_refl _) _)).drew)).mono ?_
            rintro e w7 ⟨g7, cap7, m7, rfl, h7, hr7, hb7⟩
            go_wp2_with fail
            clear hHeld
            have hB7 : Below w.heap.size w w7 := hB9.trans (hb7.mono hB9.size)
            refine hK.out _ _ (HSA.out _ hB7) (fun hHeld => ?_)
            clear hK K
            try simp only [Act.put, List.setIfInBounds_toArray, List.set_cons_zero, List.set_cons_succ]
            refine wpAnyH_ready (rs := [13]) (by kernel_rfl) (by simp) ?_
            refine AllReadyH.cons rfl (fun K hK => ?_) AllReadyH.nil
            go_simp
            refine (mix_bytes _ _ m7 cap7 (mixF ns bss 0 k ++ (enc (foldN x) ++ enc (foldN (k : Int)))) h7.out (by exact hr7.out) (mix_sz h7.out hm.out hmk (by omega)) _ ⟨ta, tl, tc, tb⟩ (by exact hok'.out _ hB7) (by show tl ≤ 500; omega) (by exact (reads_next wr _ (sV [⟨ta, tl, tc, tb⟩]) 22).drew.below hb7)).mono ?_
            rintro e w8 ⟨g8, cap8, m8, rfl, h8, hr8, hb8⟩
            go_wp2_with fail
            clear hHeld
            have hB8 : Below w.heap.size w w8 := hB7.trans (hb8.mono hB7.size)
            refine hK.out _ _ (HSA.out _ hB8) (fun hHeld => ?_)
            clear hK K
            try simp only [Act.put, List.setIfInBounds_toArray, List.set_cons_zero, List.set_cons_succ]
            refine takeD (i := 14) (d := some 6) (v := ?_) rfl rfl (by kernel_rfl) (by kernel_rfl) (by kernel_rfl) (fun _ _ _ h => h) (Or.inl ⟨by rfl, ?_⟩) (by assumption) ?_
            rotate_left
            · intro w hSw
              go_simp
              try (with_reducible rfl)
            try simp only [Act.put, List.setIfInBounds_toArray, List.set_cons_zero, List.set_cons_succ]
            refine wpAnyH_done (by kernel_rfl) ?_ _
            refine NoPanic.normal ?_
            go_wp2
            go_roundw
            case rel => exact ⟨k + 1, _, _, _, rfl, by go_num, by omega, mix_len hxk.out hbk.out h8.out, mix_le hxk.out hbk.out ht.out.1 (by show tl ≤ 500; omega) h8.out hm.out hmk, mix_reads hxk.out hbk.out hr8.out, hB8⟩
            case measure => simp [intOf]; omega
        · go_simp
          clear hHeld
          have hB6 := (show Below w.heap.size w (wr.alloc (.cells #[.slice ta tl tc] 22)).drew from (hbel.alloc hsz _).drew)
          refine hK.out _ _ (HSA.out _ hB6) (fun hHeld => ?_)
          clear hK K
          try simp only [Act.put, List.setIfInBounds_toArray, List.set_cons_zero, List.set_cons_succ]
          refine wpAnyH_ready (rs := [6]) (by kernel_rfl) (by simp) ?_
          refine AllReadyH.cons rfl (fun K hK => ?_) AllReadyH.nil
          go_simp
          clear hHeld
          have hB9 := (show Below w.heap.size w ((wr.alloc (.cells #[.slice ta tl tc] 22)).alloc (.cells #[.int .i64 x, .int .i64 (k : Nat)] 3)).drew from ((hbel.alloc hsz _).alloc (by simp; omega) _).drew)
          refine hK.out _ _ (HSA.out _ hB9) (fun hHeld => ?_)
          clear hK K
          try simp only [Act.put, List.setIfInBounds_toArray, List.set_cons_zero, List.set_cons_succ]
          refine wpAnyH_ready (rs := [7]) (by kernel_rfl) (by simp) ?_
          refine AllReadyH.cons rfl (fun K hK => ?_) AllReadyH.nil
          go_simp
          refine (mix_int _ a m cap (mixF ns bss 0 k) hm.out (by exact ((hr.out.below ((Below.refl _ _).alloc (Nat.le_refl _) _)).below ((Below.refl _ _).alloc (Nat.le_refl _) _)).drew) (by omega) _ x k hnk.out (by omega) (by exact (reads_next wr _ (iV [x, (k : Int)]) 3).drew)).mono ?_
          rintro e w7 ⟨g7, cap7, m7, rfl, h7, hr7, hb7⟩
          go_wp2_with fail
          clear hHeld
          have hB7 : Below w.heap.size w w7 := hB9.trans (hb7.mono hB9.size)
          refine hK.out _ _ (HSA.out _ hB7) (fun hHeld => ?_)
          clear hK K
          try simp only [Act.put, List.setIfInBounds_toArray, List.set_cons_zero, List.set_cons_succ]
          refine wpAnyH_ready (rs := [13]) (by kernel_rfl) (by simp) ?_
          refine AllReadyH.cons rfl (fun K hK => ?_) AllReadyH.nil
          go_simp
          refine (mix_bytes _ _ m7 cap7 (mixF ns bss 0 k ++ (enc (foldN x) ++ enc (foldN (k : Int)))) h7.out (by exact hr7.out) (mix_sz h7.out hm.out hmk (by omega)) _ ⟨ta, tl, tc, tb⟩ (by exact hok'.out _ hB7) (by show tl ≤ 500; omega) (by exact ((reads_new wr (sV [⟨ta, tl, tc, tb⟩]) 22).below ((Below.refl _ _).alloc (Nat.le_refl _) _)).drew.below hb7)).mono ?_
          rintro e w8 ⟨g8, cap8, m8, rfl, h8, hr8, hb8⟩
          go_wp2_with fail
          clear hHeld
          have hB8 : Below w.heap.size w w8 := hB7.trans (hb8.mono hB7.size)
          refine hK.out _ _ (HSA.out _ hB8) (fun hHeld => ?_)
          clear hK K
          try simp only [Act.put, List.setIfInBounds_toArray, List.set_cons_zero, List.set_cons_succ]
          refine takeD (i := 14) (d := some 6) (v := ?_) rfl rfl (by kernel_rfl) (by kernel_rfl) (by kernel_rfl) (fun _ _ _ h => h) (Or.inl ⟨by rfl, ?_⟩) (by assumption) ?_
          rotate_left
          · intro w hSw
            go_simp
            try (with_reducible rfl)
          try simp only [Act.put, List.setIfInBounds_toArray, List.set_cons_zero, List.set_cons_succ]
          refine wpAnyH_done (by kernel_rfl) ?_ _
          refine NoPanic.normal ?_
          go_wp2
          go_roundw
          case rel => exact ⟨k + 1, _, _, _, rfl, by go_num, by omega, mix_len hxk.out hbk.out h8.out, mix_le hxk.out hbk.out ht.out.1 (by show tl ≤ 500; omega) h8.out hm.out hmk, mix_reads hxk.out hbk.out hr8.out, hB8⟩
          case measure => simp [intOf]; omega
    · have hkl : k = l0 := by omega
      subst hkl
      have HY := hide (mix_byt (n := k) HI.out HO.out HB.out (by have := HL0.out; omega) (by have := HL1.out; omega) (by omega))
      go_wp2_with fail
      refine (new_any a m cap (mixF ns bss 0 k) _ hm.out HY.out hr.out (by omega)).mono ?_
      rintro e w2 ⟨c, rfl, hC2, hb2⟩
      have hB2 : Below w.heap.size w w2 := hbel.trans (hb2.mono hbel.size)
      have hw0 := hbel.size
      go_wp2_with fail
      go_loopw [10] (fun i wr' => ∃ j : Nat, i = .int .i64 (j : Nat) ∧ j ≤ k ∧ Cur wr' wr.heap.size w2.heap.size c (mixF ns bss j (k - j)) false ∧ Below w.heap.size w wr') (fun i _ => k - (intOf i).toNat)
      case atStart => exact ⟨0, rfl, by omega, by simpa using hC2, hB2⟩
      case round =>
        obtain ⟨j, rfl, hj, hC, hbel'⟩ := hrel
        by_cases hjt : j < k
        · have hk0 : j < ns.length := by have := HL0.out; omega
          have hk1 : j < ts.length := by have := HL1.out; omega
          obtain ⟨b1, off1, ha1, hc1⟩ := txts_at HR1.out hk1
          subst ha1
          obtain ⟨b0, off0, ha0, hc0⟩ := reads_at HR0.out hk0
          subst ha0
          have ht := hide (HO.out ts[j] (List.getElem_mem _))
          have hbk := hide (show bss.getD j [] = ts[j].bs by rw [HB.out]; simp [List.getD, hk1])
          have hnk := hide (HI.out ns[j] (List.getElem_mem _))
          have hxk := hide (show ns.getD j 0 = ns[j] by simp [List.getD, hk0])
          have HCE := hide (fun (w' : World) (h : Below w.heap.size w w') => (show w'.cell? ⟨b0, off0 + j, none⟩ = some (.int .i64 ns[j]) ∧ w'.cell? ⟨b1, off1 + j, none⟩ = some (.slice ts[j].a ts[j].len ts[j].cap) from
            ⟨by have h0 := hc0.out j (.int .i64 ns[j]) (by simp [iV, hk0]); rw [h.cell (cell_some_lt h0)]; exact h0, by have h0 := hc1.out j hk1; rw [h.cell (cell_some_lt h0)]; exact h0⟩))
          obtain ⟨t, hx⟩ : ∃ t, t = ts[j] := ⟨_, rfl⟩
          obtain ⟨x, hx'⟩ : ∃ x, x = ns[j] := ⟨_, rfl⟩
          rw [← hx] at HCE ht hbk
          rw [← hx'] at HCE hnk hxk
          clear hx hx' hc0 hc1
          obtain ⟨ta, tl, tc, tb⟩ := t
          simp only at HCE hbk
          have hlo := hC.lo
          have hj0 : j < l1 := by omega
          have HC := hide (mix_split hxk.out hbk.out hjt)
          rw [HC.out] at hC
          have htl : tb.length ≤ 9223372036854775807 := txt_small ht.out
          go_wp2_with fail
          refine (cur_rd hC (rdInt_enc x _ hnk.out.1 hnk.out.2)).mono ?_
          rintro e w3 ⟨rfl, hC3, hg3⟩
          go_wp2_with fail
          refine (cur_rd hC3 (rdInt_enc (j : Int) _ (by omega) (by omega))).mono ?_
          rintro e w4 ⟨rfl, hC4, hg4⟩
          go_wp2_with fail
          refine (cur_rt hC4 (rdBytes_enc tb _ htl)).mono ?_
          rintro e w5 ⟨v5, rfl, ho5, hC5, hg5⟩
          have hb3 := hbel'.grown hg3 hbel'.size (fun q hq => by simp at hq; omega)
          have hb4 := hb3.grown hg4 hb3.size (fun q hq => by simp at hq; omega)
          have hb5 := hb4.grown hg5 hb4.size (fun q hq => by simp at hq; omega)
          obtain ⟨a5, cap5, m5, rfl, hm5, hr5⟩ := reads_own_any ho5
          obtain ⟨S, hS⟩ : ∃ S, S = bstr tb := ⟨_, rfl⟩
          have hcv5 := run_str hS hm5.out hr5.drew cap5
          have hcv6 := run_str hS ht.out.1 (ht.out.below hb5).2.2.2.2.drew tc
          have hce := HCE.out _ hb5
          clear hS ho5 hr5
          go_wp2_with fail
          refine wp_region_noPanic ?_
          refine wp_region_held_drew (S := fun w' => (w'.cell? ⟨b0, off0 + j, none⟩ = some (.int .i64 x) ∧ w'.cell? ⟨b1, off1 + j, none⟩ = some (.slice ta tl tc)) ∧ (convert 22 9 (.slice a5 m5 cap5)).run Try.prog w' = .ok (.string S) w' ∧ (convert 22 9 (.slice ta tl tc)).run Try.prog w' = .ok (.string S) w') (by kernel_rfl) ⟨by simpa using hce, hcv5, hcv6⟩ (fun hHeld => ?_)
          refine takeD (i := 0) (d := some 74) (v := ?_) rfl rfl (by kernel_rfl) (by kernel_rfl) (by kernel_rfl) (fun _ _ _ h => h) (Or.inl ⟨by rfl, ?_⟩) (by assumption) ?_
          rotate_left
          · intro w hSw
            go_simp
            try (with_reducible rfl)
          try simp only [Act.put, List.setIfInBounds_toArray, List.set_cons_zero, List.set_cons_succ]
          refine takeD (i := 1) (d := some 75) (v := ?_) rfl rfl (by kernel_rfl) (by kernel_rfl) (by kernel_rfl) (fun _ _ _ h => h) (Or.inl ⟨by rfl, ?_⟩) (by assumption) ?_
          rotate_left
          · intro w hSw
            go_simp
            try (with_reducible rfl)
          try simp only [Act.put, List.setIfInBounds_toArray, List.set_cons_zero, List.set_cons_succ]
          refine takeD (i := 2) (d := some 76) (v := ?_) rfl rfl (by kernel_rfl) (by kernel_rfl) (by kernel_rfl) (fun _ _ _ h => h) (Or.inl ⟨by rfl, ?_⟩) (by assumption) ?_
          rotate_left
          · intro w hSw
            go_simp
            try (with_reducible rfl)
          try simp only [Act.put, List.setIfInBounds_toArray, List.set_cons_zero, List.set_cons_succ]
          refine takeD (i := 3) (d := some 77) (v := ?_) rfl rfl (by kernel_rfl) (by kernel_rfl) (by kernel_rfl) (fun _ _ _ h => h) (Or.inl ⟨by rfl, ?_⟩) (by assumption) ?_
          rotate_left
          · intro w hSw
            go_simp
            try (with_reducible rfl)
          try simp only [Act.put, List.setIfInBounds_toArray, List.set_cons_zero, List.set_cons_succ]
          refine takeD (i := 4) (d := some 78) (v := ?_) rfl rfl (by kernel_rfl) (by kernel_rfl) (by kernel_rfl) (fun _ _ _ h => h) (Or.inl ⟨by rfl, ?_⟩) (by assumption) ?_
          rotate_left
          · intro w hSw
            go_simp
            try (with_reducible rfl)
          try simp only [Act.put, List.setIfInBounds_toArray, List.set_cons_zero, List.set_cons_succ]
          refine takeD (i := 5) (d := some 79) (v := ?_) rfl rfl (by kernel_rfl) (by kernel_rfl) (by kernel_rfl) (fun _ _ _ h => h) (Or.inl ⟨by rfl, ?_⟩) (by assumption) ?_
          rotate_left
          · intro w hSw
            go_simp
            try (with_reducible rfl)
          try simp only [Act.put, List.setIfInBounds_toArray, List.set_cons_zero, List.set_cons_succ]
          refine takeD (i := 6) (d := some 80) (v := ?_) rfl rfl (by kernel_rfl) (by kernel_rfl) (by kernel_rfl) (fun _ _ _ h => h) (Or.inl ⟨by rfl, ?_⟩) (by assumption) ?_
          rotate_left
          · intro w hSw
            go_simp
            try (with_reducible rfl)
          try simp only [Act.put, List.setIfInBounds_toArray, List.set_cons_zero, List.set_cons_succ]
          refine takeD (i := 7) (d := some 81) (v := ?_) rfl rfl (by kernel_rfl) (by kernel_rfl) (by kernel_rfl) (fun _ _ _ h => h) (Or.inl ⟨by rfl, ?_⟩) (by assumption) ?_
          rotate_left
          · intro w hSw
            go_simp
            try (with_reducible rfl)
          try simp only [Act.put, List.setIfInBounds_toArray, List.set_cons_zero, List.set_cons_succ]
          refine takeD (i := 8) (d := some 82) (v := ?_) rfl rfl (by kernel_rfl) (by kernel_rfl) (by kernel_rfl) (fun _ _ _ h => h) (Or.inl ⟨by rfl, ?_⟩) (by assumption) ?_
          rotate_left
          · intro w hSw
            go_simp
            try (with_reducible rfl)
          try simp only [Act.put, List.setIfInBounds_toArray, List.set_cons_zero, List.set_cons_succ]
          refine takeD (i := 9) (d := some 83) (v := ?_) rfl rfl (by kernel_rfl) (by kernel_rfl) (by kernel_rfl) (fun _ _ _ h => h) (Or.inl ⟨by rfl, ?_⟩) (by assumption) ?_
          rotate_left
          · intro w hSw
            go_simp
            try (with_reducible rfl)
          try simp only [Act.put, List.setIfInBounds_toArray, List.set_cons_zero, List.set_cons_succ]
          refine takeD (i := 10) (d := some 84) (v := ?_) rfl rfl (by kernel_rfl) (by kernel_rfl) (by kernel_rfl) (fun _ _ _ h => h) (Or.inl ⟨by rfl, ?_⟩) (by assumption) ?_
          rotate_left
          · intro w hSw
            go_simp
            try (with_reducible rfl)
          try simp only [Act.put, List.setIfInBounds_toArray, List.set_cons_zero, List.set_cons_succ]
          refine takeD (i := 11) (d := some 85) (v := ?_) rfl rfl (by kernel_rfl) (by kernel_rfl) (by kernel_rfl) (fun _ _ _ h => h) (Or.inl ⟨by rfl, ?_⟩) (by assumption) ?_
          rotate_left
          · intro w hSw
            go_simp
            try (with_reducible rfl)
          try simp only [Act.put, List.setIfInBounds_toArray, List.set_cons_zero, List.set_cons_succ]
          refine takeD (i := 12) (d := some 86) (v := ?_) rfl rfl (by kernel_rfl) (by kernel_rfl) (by kernel_rfl) (fun _ _ _ h => h) (Or.inl ⟨by rfl, ?_⟩) (by assumption) ?_
          rotate_left
          · intro w hSw
            go_simp
            try (with_reducible rfl)
          try simp only [Act.put, List.setIfInBounds_toArray, List.set_cons_zero, List.set_cons_succ]
          refine takeD (i := 13) (d := some 87) (v := ?_) rfl rfl (by kernel_rfl) (by kernel_rfl) (by kernel_rfl) (fun _ _ _ h => h) (Or.inl ⟨by rfl, ?_⟩) (by assumption) ?_
          rotate_left
          · intro w hSw
            go_simp
            try (with_reducible rfl)
          try simp only [Act.put, List.setIfInBounds_toArray, List.set_cons_zero, List.set_cons_succ]
          refine takeD (i := 14) (d := some 88) (v := ?_) rfl rfl (by kernel_rfl) (by kernel_rfl) (by kernel_rfl) (fun _ _ _ h => h) (Or.inl ⟨by rfl, ?_⟩) (by assumption) ?_
          rotate_left
          · intro w hSw
            go_simp
            try (with_reducible rfl)
          try simp only [Act.put, List.setIfInBounds_toArray, List.set_cons_zero, List.set_cons_succ]
          refine takeD (i := 15) (d := some 89) (v := ?_) rfl rfl (by kernel_rfl) (by kernel_rfl) (by kernel_rfl) (fun _ _ _ h => h) (Or.inl ⟨by rfl, ?_⟩) (by assumption) ?_
          rotate_left
          · intro w hSw
            go_simp
            try (with_reducible rfl)
          try simp only [Act.put, List.setIfInBounds_toArray, List.set_cons_zero, List.set_cons_succ]
          refine takeD (i := 16) (d := some 90) (v := ?_) rfl rfl (by kernel_rfl) (by kernel_rfl) (by kernel_rfl) (fun _ _ _ h => h) (Or.inl ⟨by rfl, ?_⟩) (by assumption) ?_
          rotate_left
          · intro w hSw
            go_simp
            try (with_reducible rfl)
          try simp only [Act.put, List.setIfInBounds_toArray, List.set_cons_zero, List.set_cons_succ]
          refine takeD (i := 17) (d := some 91) (v := ?_) rfl rfl (by kernel_rfl) (by kernel_rfl) (by kernel_rfl) (fun _ _ _ h => h) (Or.inl ⟨by rfl, ?_⟩) (by assumption) ?_
          rotate_left
          · intro w hSw
            go_simp
            try (with_reducible rfl)
          try simp only [Act.put, List.setIfInBounds_toArray, List.set_cons_zero, List.set_cons_succ]
          refine takeD (i := 18) (d := some 92) (v := ?_) rfl rfl (by kernel_rfl) (by kernel_rfl) (by kernel_rfl) (fun _ _ _ h => h) (Or.inl ⟨by rfl, ?_⟩) (by assumption) ?_
          rotate_left
          · intro w hSw
            go_simp
            try (with_reducible rfl)
          try simp only [Act.put, List.setIfInBounds_toArray, List.set_cons_zero, List.set_cons_succ]
          refine takeD (i := 19) (d := some 93) (v := ?_) rfl rfl (by kernel_rfl) (by kernel_rfl) (by kernel_rfl) (fun _ _ _ h => h) (Or.inl ⟨by rfl, ?_⟩) (by assumption) ?_
          rotate_left
          · intro w hSw
            go_simp
            try (with_reducible rfl)
          try simp only [Act.put, List.setIfInBounds_toArray, List.set_cons_zero, List.set_cons_succ]
          refine takeD (i := 20) (d := some 94) (v := ?_) rfl rfl (by kernel_rfl) (by kernel_rfl) (by kernel_rfl) (fun _ _ _ h => h) (Or.inl ⟨by rfl, ?_⟩) (by assumption) ?_
          rotate_left
          · intro w hSw
            go_simp
            try (with_reducible rfl)
          try simp only [Act.put, List.setIfInBounds_toArray, List.set_cons_zero, List.set_cons_succ]
          refine wpAnyH_done (by kernel_rfl) ?_ _
          refine NoPanic.normal ?_
          go_wp2
          go_roundw
          case rel => exact ⟨j + 1, by go_num, by omega, hC5.drew, hb5.drew⟩
          case measure => simp [intOf]; omega
        · have e0 : k - j = 0 := by omega
          rw [e0] at hC
          have hcb := hC.bad
          obtain ⟨a6, cap6, hc06⟩ := Cur.left hC
          go_wp2_with fail
          refine (end_any c a6 _ cap6 false _ hc06 hcb).mono ?_
          rintro e w7 ⟨rfl, rfl⟩
          go_wp2
          go_ret
          exact ⟨rfl, hbel'⟩

theorem walk (a0 : Option Addr) (l0 c0 : Nat) (ns : List Int) (a1 : Option Addr) (l1 c1 : Nat) (ts : List Txt) (w : World) (hl0 : ns.length = l0) (hin : In64 ns) (hr0 : Reads w a0 (iV ns)) (hr1 : ts.length = l1 ∧ (∀ t ∈ ts, t.ok w) ∧ Reads w a1 (sV ts)) :
    Calls Try.prog 5 #[.slice a0 l0 c0, .slice a1 l1 c1] w fun e w' => e = .returned (.bool true) ∧ Below w.heap.size w w' := by
  by_cases hbig : 100 < l0 ∨ 100 < l1
  · exact walk_big a0 l0 c0 a1 l1 c1 w hbig
  · by_cases h : l1 < l0
    · exact walk_lt a0 l0 c0 ns a1 l1 c1 ts w hl0 hin hr0 hr1.1 hr1.2.1 hr1.2.2 (by omega) (by omega) h
    · exact walk_ge a0 l0 c0 ns a1 l1 c1 ts w hl0 hin hr0 hr1.1 hr1.2.1 hr1.2.2 (by omega) (by omega) h
end packMixed
end Go.Proofs.Ytdhekagkhhejpaa
