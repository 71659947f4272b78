/- note.written. -/
import Derived.Test.YtgkpioleipefmaaNoW
namespace Go.Proofs.Ytgkpioleipefmaa
open Go.RowKit Go.ChangeShapes Go.WideShapes Go.ChangeAt Go.Deep

theorem encP_len (n : No) (p : Nat) (h1 : n.id.length ≤ 20000) (h2 : n.args.length ≤ 20000) (h3 : n.mem.length ≤ 20000) : (encP n p).length ≤ 500000 := by
  have hi := fun x => (encI_len x).2
  have a1 := hi n.node
  have a2 := hi n.life
  have a3 := hi n.epoch
  have a4 := hi n.func
  have a5 := hi n.err
  have a6 := hi n.val
  have a7 := hi n.vep
  have a8 := hi n.args.length
  have a9 := hi n.mem.length
  have b1 := encs_length n.args
  have b2 := encM_len n.mem
  have b3 := enc_len (foldN (n.id.length : Int))
  unfold encP
  split <;> (try simp only [List.length_append, encT, List.length_nil]) <;> omega
theorem encPs_len (n : No) (ps : List Nat) (h1 : n.id.length ≤ 20000) (h2 : n.args.length ≤ 20000) (h3 : n.mem.length ≤ 20000) : (encPs n ps).length ≤ 500000 * ps.length := by
  induction ps with
  | nil => simp [encPs]
  | cons p ps ih =>
    have := encP_len n p h1 h2 h3
    have e : encPs n (p :: ps) = encP n p ++ encPs n ps := by simp [encPs]
    rw [e]; simp only [List.length_append, List.length_cons]; omega
theorem part_at {w : World} {a : Option Addr} {ps : List Nat} {k : Nat} (h : Reads w a (pV ps)) (hk : k < ps.length) : ∃ b off, a = some ⟨b, off, none⟩ ∧ w.cell? ⟨b, off + k, none⟩ = some (.int .i64 (ps[k] : Nat)) := by
  rcases h with h | ⟨b, off, e, h⟩
  · have := congrArg List.length h; rw [pV_len] at this; simp at this; rw [this] at hk; simp at hk
  · exact ⟨b, off, e, h k _ (by simp [pV, hk])⟩

set_option maxRecDepth 100000 in
set_option maxHeartbeats 8000000 in
theorem written_go (Z0 : List Nat) (kind node life epoch : Int) (id : List Nat) (s : ByteArray) (func : Int) (args : List Int) (aa : Option Addr) (al ac : Nat) (err val vep : Int) (mem : List (Int × Int)) (ma : Option Addr) (ml mc : Nat) (ps : List Nat) (v0 : Value) (pa : Option Addr) (pl pc : Nat) (w : World)
    (hs : s.size ≤ 20000) (hid : uN s.data.toList = id) (hal : args.length = al) (han : al ≤ 20000) (hra : Reads w aa (iV args)) (hml : mem.length = ml) (hmn : ml ≤ 20000) (hrm : Reads w ma (mV mem)) (hpl : ps.length = pl) (hpn : pl ≤ 5) (hp8 : ∀ p ∈ ps, p < 8) (hrp : Reads w pa (pV ps)) (hz0 : Z0.length ≤ 1000) (hv0 : RowV 0 w v0 Z0.length (bV Z0))
    (i1 : In1 node) (i2 : In1 life) (i3 : In1 epoch) (i4 : In1 func) (i5 : In64 args) (i6 : In1 err) (i7 : In1 val) (i8 : In1 vep) (i9 : ∀ m ∈ mem, In1 m.1 ∧ In1 m.2) :
    Calls Try.prog 21 #[v0, .agg #[.int .i64 kind, .int .i64 node, .int .i64 life, .int .i64 epoch, .string s, .int .i64 func, .slice aa al ac, .int .i64 err, .int .i64 val, .int .i64 vep, .slice ma ml mc], .slice pa pl pc] w (fun e w' => ∃ v, e = .returned v ∧ RowV 0 w' v (Z0 ++ encPs ⟨kind, node, life, epoch, id, func, args, err, val, vep, mem⟩ ps).length (bV (Z0 ++ encPs ⟨kind, node, life, epoch, id, func, args, err, val, vep, mem⟩ ps)) ∧ Below w.heap.size w w') := by
  have hidl : id.length ≤ 20000 := by rw [← hid]; simpa [uN] using hs
  have HLe := hide (fun qs => encPs_len ⟨kind, node, life, epoch, id, func, args, err, val, vep, mem⟩ qs hidl (by simp only; omega) (by simp only; omega))
  have HSt := hide (fun k hk => encPs_step ⟨kind, node, life, epoch, id, func, args, err, val, vep, mem⟩ ps k hk)
  have HE : ∀ p, p < 8 → Hid (encP ⟨kind, node, life, epoch, id, func, args, err, val, vep, mem⟩ p = match p with | 0 => encI node | 1 => encI life | 2 => encI epoch | 3 => encT id | 4 => encI func | 5 => encI al ++ encs args | 6 => encI err ++ encI val | _ => encI vep ++ (encI ml ++ encM mem)) := fun p hp => by
    rcases (by omega : p = 0 ∨ p = 1 ∨ p = 2 ∨ p = 3 ∨ p = 4 ∨ p = 5 ∨ p = 6 ∨ p = 7) with rfl | rfl | rfl | rfl | rfl | rfl | rfl | rfl <;> (refine hide ?_; simp only [encP, hal, hml])
  generalize (⟨kind, node, life, epoch, id, func, args, err, val, vep, mem⟩ : No) = n at HLe HSt HE ⊢
  have HX0 := hide (BoxL.new w [.int .i64 kind, .int .i64 node, .int .i64 life, .int .i64 epoch, .string s, .int .i64 func, .slice aa al ac, .int .i64 err, .int .i64 val, .int .i64 vep, .slice ma ml mc] 31)
  have HB00 := hide (below_new w (.cells #[.int .i64 kind, .int .i64 node, .int .i64 life, .int .i64 epoch, .string s, .int .i64 func, .slice aa al ac, .int .i64 err, .int .i64 val, .int .i64 vep, .slice ma ml mc] 31))
  obtain ⟨V, hV⟩ : ∃ V, V = w.alloc (.cells #[.int .i64 kind, .int .i64 node, .int .i64 life, .int .i64 epoch, .string s, .int .i64 func, .slice aa al ac, .int .i64 err, .int .i64 val, .int .i64 vep, .slice ma ml mc] 31) := ⟨_, rfl⟩
  have HX := hide (show BoxL V w.heap.size [.int .i64 kind, .int .i64 node, .int .i64 life, .int .i64 epoch, .string s, .int .i64 func, .slice aa al ac, .int .i64 err, .int .i64 val, .int .i64 vep, .slice ma ml mc] by rw [hV]; exact HX0.out)
  have HB0 := hide (show Below w.heap.size w V by rw [hV]; exact HB00.out)
  have HV := hide hV
  clear hV HX0 HB00
  go_enter Try.func21, Try.ntmps21
  go_wp2
  rw [← HV.out]
  go_loopw [0, 11] (fun v i wr => Hid (Below V.heap.size V wr) ∧ ∃ (k : Nat), k ≤ pl ∧ i = .int .i64 (k : Nat) ∧ Hid (RowV 0 wr v (Z0 ++ encPs n (ps.take k)).length (bV (Z0 ++ encPs n (ps.take k))))) (fun _ i _ => pl - (intOf i).toNat)
  case atStart => exact ⟨hide (Below.refl _ _), 0, Nat.zero_le _, rfl, hide (by simpa [encPs] using hv0.below HB0.out)⟩
  case round =>
    obtain ⟨hbw, k, hk, rfl, hrow⟩ := hrel
    by_cases hlt : k < pl
    · have hkc : k < ps.length := by omega
      obtain ⟨cb, off, har, y0⟩ := part_at ((hrp.below HB0.out).below hbw.out) hkc
      subst har
      have hrow' := hrow.out
      obtain ⟨a2, m2, c2, rfl, hm2, -, -, hr2, -⟩ := hrow'
      have hz := HLe.out (ps.take k)
      have hz1 : (ps.take k).length ≤ 5 := by simp; omega
      have hq8 := hp8 ps[k] (List.getElem_mem _)
      have HEk := HE ps[k] hq8
      have HSk := hide (HSt.out k hkc)
      have hm2' := hm2.out
      have h9k : m2 ≤ 2501000 := by simp only [List.length_append] at hm2'; omega
      have HN := hide (show Z0 ++ encPs n (ps.take (k + 1)) = (Z0 ++ encPs n (ps.take k)) ++ encP n ps[k] by rw [HSk.out]; simp)
      generalize ps[k] = p at y0 hq8 HEk HSk HN
      generalize Z0 ++ encPs n (ps.take k) = Zk at hrow hm2 hr2 HN hm2'
      have HM2 := hide hm2'
      have h9k' := h9k
      replace h9k : m2 ≤ 1000000000 := by omega
      have hlt' : (k : Int) < (pl : Int) := by omega
      clear hm2' hz hz1 hrow hm2 HSk HE HSt HLe
      rcases (by omega : p = 0 ∨ p = 1 ∨ p = 2 ∨ p = 3 ∨ p = 4 ∨ p = 5 ∨ p = 6 ∨ p = 7) with rfl | rfl | rfl | rfl | rfl | rfl | rfl | rfl

      · simp only at HEk
        rw [HEk.out] at HN
        replace y0 : wr.cell? ⟨cb, off + k, none⟩ = some (.int .i64 0) := y0
        clear HEk hq8
        obtain ⟨-, k1, -⟩ := (HX.out.below hbw.out).c11
        have C := hide (pi1 Zk node i1 a2 m2 c2 wr HM2.out h9k hr2)
        go_wp2_with (go_at_call 22; go_must ((with_reducible refine (C.out _ rfl).mono ?_); rintro e w2 ⟨v2, rfl, hrow2, hb2⟩; have HBF := hide hb2; have HRF := hide (hrow2.mono (Nat.zero_le _))))
        go_roundw
        case rel => exact ⟨hide (hbw.out.trans (HBF.out.mono hbw.out.size)), k + 1, by omega, by go_num, by rw [HN.out]; exact HRF⟩
        case measure => simp [intOf]; omega
      · simp only at HEk
        rw [HEk.out] at HN
        replace y0 : wr.cell? ⟨cb, off + k, none⟩ = some (.int .i64 1) := y0
        clear HEk hq8
        obtain ⟨-, -, k2, -⟩ := (HX.out.below hbw.out).c11
        have C := hide (pi1 Zk life i2 a2 m2 c2 wr HM2.out h9k hr2)
        go_wp2_with (go_at_call 22; go_must ((with_reducible refine (C.out _ rfl).mono ?_); rintro e w2 ⟨v2, rfl, hrow2, hb2⟩; have HBF := hide hb2; have HRF := hide (hrow2.mono (Nat.zero_le _))))
        go_roundw
        case rel => exact ⟨hide (hbw.out.trans (HBF.out.mono hbw.out.size)), k + 1, by omega, by go_num, by rw [HN.out]; exact HRF⟩
        case measure => simp [intOf]; omega
      · simp only at HEk
        rw [HEk.out] at HN
        replace y0 : wr.cell? ⟨cb, off + k, none⟩ = some (.int .i64 2) := y0
        clear HEk hq8
        obtain ⟨-, -, -, k3, -⟩ := (HX.out.below hbw.out).c11
        have C := hide (pi1 Zk epoch i3 a2 m2 c2 wr HM2.out h9k hr2)
        go_wp2_with (go_at_call 22; go_must ((with_reducible refine (C.out _ rfl).mono ?_); rintro e w2 ⟨v2, rfl, hrow2, hb2⟩; have HBF := hide hb2; have HRF := hide (hrow2.mono (Nat.zero_le _))))
        go_roundw
        case rel => exact ⟨hide (hbw.out.trans (HBF.out.mono hbw.out.size)), k + 1, by omega, by go_num, by rw [HN.out]; exact HRF⟩
        case measure => simp [intOf]; omega
      · simp only at HEk
        rw [HEk.out] at HN
        replace y0 : wr.cell? ⟨cb, off + k, none⟩ = some (.int .i64 3) := y0
        clear HEk hq8
        obtain ⟨-, -, -, -, k4, -⟩ := (HX.out.below hbw.out).c11
        obtain ⟨X, cp, kc, hbX, hsX, hokX⟩ := str_row wr s hs
        rw [hid] at hokX
        have HRX := hide (hr2.below hbX)
        have HBX := hide hbX
        have HSX := hide hsX
        clear hbX hsX
        have C := hide (pb1 Zk id a2 m2 c2 (some ⟨wr.heap.size, 0, none⟩) s.size cp X HM2.out h9k HRX.out hokX (by omega))
        go_wp2_with (go_at_call 38; go_must ((with_reducible refine (C.out _ (by first | rfl | rw [HSX.out])).mono ?_); rintro e w2 ⟨v2, rfl, hrow2, hb2⟩; have HBF := hide (HBX.out.trans (hb2.mono HBX.out.size)); have HRF := hide (hrow2.mono (Nat.zero_le _))))
        go_roundw
        case rel => exact ⟨hide (hbw.out.trans (HBF.out.mono hbw.out.size)), k + 1, by omega, by go_num, by rw [HN.out]; exact HRF⟩
        case measure => simp [intOf]; omega
      · simp only at HEk
        rw [HEk.out] at HN
        replace y0 : wr.cell? ⟨cb, off + k, none⟩ = some (.int .i64 4) := y0
        clear HEk hq8
        obtain ⟨-, -, -, -, -, k5, -⟩ := (HX.out.below hbw.out).c11
        have C := hide (pi1 Zk func i4 a2 m2 c2 wr HM2.out h9k hr2)
        go_wp2_with (go_at_call 22; go_must ((with_reducible refine (C.out _ rfl).mono ?_); rintro e w2 ⟨v2, rfl, hrow2, hb2⟩; have HBF := hide hb2; have HRF := hide (hrow2.mono (Nat.zero_le _))))
        go_roundw
        case rel => exact ⟨hide (hbw.out.trans (HBF.out.mono hbw.out.size)), k + 1, by omega, by go_num, by rw [HN.out]; exact HRF⟩
        case measure => simp [intOf]; omega
      · simp only at HEk
        rw [HEk.out] at HN
        replace y0 : wr.cell? ⟨cb, off + k, none⟩ = some (.int .i64 5) := y0
        clear HEk hq8
        obtain ⟨-, -, -, -, -, -, k6, -⟩ := (HX.out.below hbw.out).c11
        have C := hide (pi1 Zk (al : Int) (by unfold In1; omega) a2 m2 c2 wr HM2.out h9k hr2)
        have HRA := hide (hra.below (HB0.out.trans (hbw.out.mono HB0.out.size)))
        go_wp2_with (go_at_call 22; first
          | ((with_reducible refine (C.out _ rfl).mono ?_); rintro e w2 ⟨v2, rfl, hrow2, hb2⟩; obtain ⟨a3, m3, c3, rfl, hm3, -, -, hr3, -⟩ := hrow2; have hm3' := hm3.out; have h9m : m3 ≤ 1000000000 := (by have := (encI_len (al : Int)).2; have := HM2.out; simp only [List.length_append] at hm3'; omega); obtain ⟨-, -, -, -, -, -, q6, -⟩ := (HX.out.below (hbw.out.trans (hb2.mono hbw.out.size))).c11; clear hm3')
          | (go_must ((with_reducible refine (pin (Zk ++ encI al) args a3 m3 c3 aa al ac w2 hm3.out h9m hr3 hal (by omega) i5 (HRA.out.below hb2)).mono ?_); rintro e w3 ⟨v3, rfl, hrow3, hb3⟩; have HBF := hide (hb2.trans (hb3.mono hb2.size)); have HRF := hide (hrow3.mono (Nat.zero_le _)); rw [List.append_assoc] at HRF)))
        go_roundw
        case rel => exact ⟨hide (hbw.out.trans (HBF.out.mono hbw.out.size)), k + 1, by omega, by go_num, by rw [HN.out]; exact HRF⟩
        case measure => simp [intOf]; omega
      · simp only at HEk
        rw [HEk.out] at HN
        replace y0 : wr.cell? ⟨cb, off + k, none⟩ = some (.int .i64 6) := y0
        clear HEk hq8
        obtain ⟨-, -, -, -, -, -, -, k7, k8, -⟩ := (HX.out.below hbw.out).c11
        have C := hide (pi2 Zk err val i6 i7 a2 m2 c2 wr HM2.out h9k hr2)
        go_wp2_with (go_at_call 22; go_must ((with_reducible refine (C.out _ rfl).mono ?_); rintro e w2 ⟨v2, rfl, hrow2, hb2⟩; have HBF := hide hb2; have HRF := hide (hrow2.mono (Nat.zero_le _))))
        go_roundw
        case rel => exact ⟨hide (hbw.out.trans (HBF.out.mono hbw.out.size)), k + 1, by omega, by go_num, by rw [HN.out]; exact HRF⟩
        case measure => simp [intOf]; omega
      · simp only at HEk
        rw [HEk.out] at HN
        replace y0 : wr.cell? ⟨cb, off + k, none⟩ = some (.int .i64 7) := y0
        clear HEk hq8
        obtain ⟨-, -, -, -, -, -, -, -, -, k9, k10⟩ := (HX.out.below hbw.out).c11
        have C := hide (pi1 Zk vep i8 a2 m2 c2 wr HM2.out h9k hr2)
        have HRA := hide (hrm.below (HB0.out.trans (hbw.out.mono HB0.out.size)))
        go_wp2_with (first
          | (go_at_call 22; go_must ((with_reducible refine (C.out _ rfl).mono ?_); rintro e w2 ⟨v2, rfl, hrow2, hb2⟩; obtain ⟨a3, m3, c3, rfl, hm3, -, -, hr3, -⟩ := hrow2; have hm3' := hm3.out; have h9m : m3 ≤ 10000000 := (by have := (encI_len vep).2; have := HM2.out; simp only [List.length_append] at hm3'; omega); obtain ⟨-, -, -, -, -, -, -, -, -, -, q10⟩ := (HX.out.below (hbw.out.trans (hb2.mono hbw.out.size))).c11; clear hm3'))
          | (go_at_call 39; go_must ((with_reducible refine (wm_any (Zk ++ encI vep) mem a3 m3 c3 ma ml mc w2 hm3.out h9m hr3 hml (by omega) i9 (HRA.out.below hb2)).mono ?_); rintro e w3 ⟨v3, rfl, hrow3, hb3⟩; have HBF := hide (hb2.trans (hb3.mono hb2.size)); have HRF := hide (hrow3.mono (Nat.zero_le _)); rw [List.append_assoc] at HRF)))
        go_roundw
        case rel => exact ⟨hide (hbw.out.trans (HBF.out.mono hbw.out.size)), k + 1, by omega, by go_num, by rw [HN.out]; exact HRF⟩
        case measure => simp [intOf]; omega
    · have HT := hide (show ps.take k = ps from List.take_of_length_le (by omega))
      rw [HT.out] at hrow
      go_wp2
      go_ret
      exact ⟨_, rfl, hrow.out, HB0.out.trans (hbw.out.mono HB0.out.size)⟩

/-- note.written. -/
theorem written_any (Z0 : List Nat) (n : No) (s : ByteArray) (av mv v0 pv : Value) (B B' : Nat) (k : Int) (w : World) (hM : NM B w n s av mv) (hI : NIn n) (hv0 : RowV B' w v0 Z0.length (bV Z0)) (hz0 : Z0.length ≤ 1000) (hp : RowV B' w pv (partsL k).length (pV (partsL k))) :
    Calls Try.prog 21 #[v0, Nv n s av mv, pv] w (fun e w' => ∃ v, e = .returned v ∧ RowV 0 w' v (Z0 ++ encPs n (partsL k)).length (bV (Z0 ++ encPs n (partsL k))) ∧ Below w.heap.size w w') := by
  obtain ⟨h1, h2, h3, h4, ⟨aa, al, ac, rfl, hal, _, _, hra, _⟩, ⟨ma, ml, mc, rfl, hml, _, _, hrm, _⟩⟩ := hM
  obtain ⟨pa, pl, pc, rfl, hpl, _, _, hrp, _⟩ := hp
  have hal' : n.args.length = al := hal
  have hml' : n.mem.length = ml := hml
  have hpl' : (partsL k).length = pl := hpl
  have h5 := (parts_len k).1
  obtain ⟨⟨_, j1, j2, j3⟩, ⟨j4, j5⟩, ⟨j6, j7⟩, j8, j9⟩ := hI
  exact written_go Z0 n.kind n.node n.life n.epoch n.id s n.func n.args aa al ac n.err n.val n.vep n.mem ma ml mc (partsL k) v0 pa pl pc w h2 h1 hal' (by omega) hra hml' (by omega) hrm hpl' (by omega) (parts_lt k) hrp hz0 (hv0.mono (Nat.zero_le _)) j1 j2 j3 j4 j5 j6 j7 j8 j9
end Go.Proofs.Ytgkpioleipefmaa
