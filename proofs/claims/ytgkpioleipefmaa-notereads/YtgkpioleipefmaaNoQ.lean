/- note.only, note.Clear. -/
import Derived.Test.YtgkpioleipefmaaNoO
namespace Go.Proofs.Ytgkpioleipefmaa
open Go.RowKit Go.ChangeShapes Go.WideShapes Go.ChangeAt Go.Deep

theorem setP_len (p : Nat) (n o : No) : (setP p n o).args.length ≤ o.args.length + n.args.length ∧ (setP p n o).mem.length ≤ o.mem.length + n.mem.length := by
  unfold setP; split <;> simp
theorem fold_len (n : No) (ps : List Nat) (o : No) : (ps.foldl (fun o p => setP p n o) o).args.length ≤ o.args.length + ps.length * n.args.length ∧ (ps.foldl (fun o p => setP p n o) o).mem.length ≤ o.mem.length + ps.length * n.mem.length := by
  induction ps generalizing o with
  | nil => simp
  | cons p l ih =>
    have h1 := setP_len p n o
    have h2 := ih (setP p n o)
    simp only [List.foldl_cons, List.length_cons, Nat.add_mul, Nat.one_mul]
    omega
theorem only_len (n : No) (ps : List Nat) : (onlyN n ps).args.length ≤ ps.length * n.args.length ∧ (onlyN n ps).mem.length ≤ ps.length * n.mem.length := by
  have := fold_len n ps ⟨n.kind, 0, 0, 0, [], 0, [], 0, 0, 0, []⟩
  simpa [onlyN] using this
/-- A note as it is answered: a value, and what it leads to, made since. -/
def NPost (o : No) (w : World) (e : Ending) (w' : World) : Prop := ∃ s av mv, e = .returned (Nv o s av mv) ∧ NM w.heap.size w' o s av mv ∧ Below w.heap.size w w'

set_option maxRecDepth 100000 in
set_option maxHeartbeats 8000000 in
theorem only_go (kind node life epoch : Int) (id : List Nat) (s : ByteArray) (func : Int) (args : List Int) (aa : Option Addr) (al ac : Nat) (err val vep : Int) (mem : List (Int × Int)) (ma : Option Addr) (ml mc : Nat) (ps : List Nat) (pa : Option Addr) (pl pc : Nat) (w : World)
    (hs : s.size ≤ 20000) (hid : uN s.data.toList = id) (hal : args.length = al) (han : al ≤ 20000) (hna : aa = none → al = 0 ∧ ac = 0) (hra : Reads w aa (iV args)) (hml : mem.length = ml) (hmn : ml ≤ 20000) (hnm : ma = none → ml = 0 ∧ mc = 0) (hrm : Reads w ma (mV mem)) (hpl : ps.length = pl) (hpn : pl ≤ 5) (hp8 : ∀ p ∈ ps, p < 8) (hrp : Reads w pa (pV ps))
    (hend : (onlyN ⟨kind, node, life, epoch, id, func, args, err, val, vep, mem⟩ ps).args.length ≤ 20000 ∧ (onlyN ⟨kind, node, life, epoch, id, func, args, err, val, vep, mem⟩ ps).mem.length ≤ 20000) :
    Calls Try.prog 28 #[.agg #[.int .i64 kind, .int .i64 node, .int .i64 life, .int .i64 epoch, .string s, .int .i64 func, .slice aa al ac, .int .i64 err, .int .i64 val, .int .i64 vep, .slice ma ml mc], .slice pa pl pc] w (NPost (onlyN ⟨kind, node, life, epoch, id, func, args, err, val, vep, mem⟩ ps) w) := by
  have HSt := hide (fun k hk => only_step ⟨kind, node, life, epoch, id, func, args, err, val, vep, mem⟩ ps k hk)
  have HLe := hide (fun qs => (show (onlyN ⟨kind, node, life, epoch, id, func, args, err, val, vep, mem⟩ qs).args.length ≤ qs.length * al ∧ (onlyN ⟨kind, node, life, epoch, id, func, args, err, val, vep, mem⟩ qs).mem.length ≤ qs.length * ml from by have h := only_len ⟨kind, node, life, epoch, id, func, args, err, val, vep, mem⟩ qs; simp only [hal, hml] at h; exact h))
  have HO0 := hide (show OI w [.int .i64 kind, .int .i64 node, .int .i64 life, .int .i64 epoch, .string s, .int .i64 func, .slice aa al ac, .int .i64 err, .int .i64 val, .int .i64 vep, .slice ma ml mc] (onlyN ⟨kind, node, life, epoch, id, func, args, err, val, vep, mem⟩ (ps.take 0)) (((w.alloc (.cells #[.int .i64 kind, .int .i64 node, .int .i64 life, .int .i64 epoch, .string s, .int .i64 func, .slice aa al ac, .int .i64 err, .int .i64 val, .int .i64 vep, .slice ma ml mc] 31)).alloc (.cells #[.int .i64 0, .int .i64 0, .int .i64 0, .int .i64 0, .string ⟨#[]⟩, .int .i64 0, .slice none 0 0, .int .i64 0, .int .i64 0, .int .i64 0, .slice none 0 0] 31)).alloc (.cells #[.int .i64 kind, .int .i64 0, .int .i64 0, .int .i64 0, .string ⟨#[]⟩, .int .i64 0, .slice none 0 0, .int .i64 0, .int .i64 0, .int .i64 0, .slice none 0 0] 31)) from by
    have b1 := below_new w (.cells #[.int .i64 kind, .int .i64 node, .int .i64 life, .int .i64 epoch, .string s, .int .i64 func, .slice aa al ac, .int .i64 err, .int .i64 val, .int .i64 vep, .slice ma ml mc] 31)
    have b2 := below_new (w.alloc (.cells #[.int .i64 kind, .int .i64 node, .int .i64 life, .int .i64 epoch, .string s, .int .i64 func, .slice aa al ac, .int .i64 err, .int .i64 val, .int .i64 vep, .slice ma ml mc] 31)) (.cells #[.int .i64 0, .int .i64 0, .int .i64 0, .int .i64 0, .string ⟨#[]⟩, .int .i64 0, .slice none 0 0, .int .i64 0, .int .i64 0, .int .i64 0, .slice none 0 0] 31)
    have b3 := below_new ((w.alloc (.cells #[.int .i64 kind, .int .i64 node, .int .i64 life, .int .i64 epoch, .string s, .int .i64 func, .slice aa al ac, .int .i64 err, .int .i64 val, .int .i64 vep, .slice ma ml mc] 31)).alloc (.cells #[.int .i64 0, .int .i64 0, .int .i64 0, .int .i64 0, .string ⟨#[]⟩, .int .i64 0, .slice none 0 0, .int .i64 0, .int .i64 0, .int .i64 0, .slice none 0 0] 31)) (.cells #[.int .i64 kind, .int .i64 0, .int .i64 0, .int .i64 0, .string ⟨#[]⟩, .int .i64 0, .slice none 0 0, .int .i64 0, .int .i64 0, .int .i64 0, .slice none 0 0] 31)
    refine ⟨(b1.trans (b2.mono b1.size)).trans (b3.mono (b1.trans (b2.mono b1.size)).size), ((BoxL.new w [.int .i64 kind, .int .i64 node, .int .i64 life, .int .i64 epoch, .string s, .int .i64 func, .slice aa al ac, .int .i64 err, .int .i64 val, .int .i64 vep, .slice ma ml mc] 31).below b2).below b3, ?_, by first | (simp; done) | (simp; omega) | omega, ⟨#[]⟩, none, 0, 0, none, 0, 0, ?_, rfl, (by show (0 : Nat) ≤ 20000; omega), ⟨hide rfl, World.ownsRow_nil _ _ _ _⟩, ⟨hide rfl, World.ownsRow_nil _ _ _ _⟩⟩
    · have h := (BoxL.new (w.alloc (.cells #[.int .i64 kind, .int .i64 node, .int .i64 life, .int .i64 epoch, .string s, .int .i64 func, .slice aa al ac, .int .i64 err, .int .i64 val, .int .i64 vep, .slice ma ml mc] 31)) [.int .i64 0, .int .i64 0, .int .i64 0, .int .i64 0, .string ⟨#[]⟩, .int .i64 0, .slice none 0 0, .int .i64 0, .int .i64 0, .int .i64 0, .slice none 0 0] 31).below b3
      rw [show (w.alloc (.cells #[.int .i64 kind, .int .i64 node, .int .i64 life, .int .i64 epoch, .string s, .int .i64 func, .slice aa al ac, .int .i64 err, .int .i64 val, .int .i64 vep, .slice ma ml mc] 31)).heap.size = w.heap.size + 1 by simp] at h
      exact h
    · have h := BoxL.new ((w.alloc (.cells #[.int .i64 kind, .int .i64 node, .int .i64 life, .int .i64 epoch, .string s, .int .i64 func, .slice aa al ac, .int .i64 err, .int .i64 val, .int .i64 vep, .slice ma ml mc] 31)).alloc (.cells #[.int .i64 0, .int .i64 0, .int .i64 0, .int .i64 0, .string ⟨#[]⟩, .int .i64 0, .slice none 0 0, .int .i64 0, .int .i64 0, .int .i64 0, .slice none 0 0] 31)) [.int .i64 kind, .int .i64 0, .int .i64 0, .int .i64 0, .string ⟨#[]⟩, .int .i64 0, .slice none 0 0, .int .i64 0, .int .i64 0, .int .i64 0, .slice none 0 0] 31
      rw [show ((w.alloc (.cells #[.int .i64 kind, .int .i64 node, .int .i64 life, .int .i64 epoch, .string s, .int .i64 func, .slice aa al ac, .int .i64 err, .int .i64 val, .int .i64 vep, .slice ma ml mc] 31)).alloc (.cells #[.int .i64 0, .int .i64 0, .int .i64 0, .int .i64 0, .string ⟨#[]⟩, .int .i64 0, .slice none 0 0, .int .i64 0, .int .i64 0, .int .i64 0, .slice none 0 0] 31)).heap.size = w.heap.size + 2 by simp] at h
      exact h)
  have HRp := hide hrp
  have HE : ∀ p, p < 8 → ∀ o, Hid (setP p ⟨kind, node, life, epoch, id, func, args, err, val, vep, mem⟩ o = match p with | 0 => { o with node := node } | 1 => { o with life := life } | 2 => { o with epoch := epoch } | 3 => { o with id := id } | 4 => { o with func := func } | 5 => { o with args := o.args ++ args } | 6 => { o with err := err, val := val } | _ => { o with vep := vep, mem := o.mem ++ mem }) := fun p hp o => by
    rcases (by omega : p = 0 ∨ p = 1 ∨ p = 2 ∨ p = 3 ∨ p = 4 ∨ p = 5 ∨ p = 6 ∨ p = 7) with rfl | rfl | rfl | rfl | rfl | rfl | rfl | rfl <;> exact hide rfl
  generalize (⟨kind, node, life, epoch, id, func, args, err, val, vep, mem⟩ : No) = n at HSt HLe HO0 hend HE ⊢
  obtain ⟨R, hR⟩ : ∃ R, R = onlyN n ps := ⟨_, rfl⟩
  rw [← hR] at hend
  rw [← hR]
  have HR := hide hR
  clear hR
  go_enter Try.func28, Try.ntmps28
  go_wp2
  generalize (((w.alloc (.cells #[.int .i64 kind, .int .i64 node, .int .i64 life, .int .i64 epoch, .string s, .int .i64 func, .slice aa al ac, .int .i64 err, .int .i64 val, .int .i64 vep, .slice ma ml mc] 31)).alloc (.cells #[.int .i64 0, .int .i64 0, .int .i64 0, .int .i64 0, .string ⟨#[]⟩, .int .i64 0, .slice none 0 0, .int .i64 0, .int .i64 0, .int .i64 0, .slice none 0 0] 31)).alloc (.cells #[.int .i64 kind, .int .i64 0, .int .i64 0, .int .i64 0, .string ⟨#[]⟩, .int .i64 0, .slice none 0 0, .int .i64 0, .int .i64 0, .int .i64 0, .slice none 0 0] 31)) = V at HO0 ⊢
  go_loopw [13] (fun i wr => Hid (Below w.heap.size w wr) ∧ ∃ (k : Nat), k ≤ pl ∧ i = .int .i64 (k : Nat) ∧ Hid (OI w [.int .i64 kind, .int .i64 node, .int .i64 life, .int .i64 epoch, .string s, .int .i64 func, .slice aa al ac, .int .i64 err, .int .i64 val, .int .i64 vep, .slice ma ml mc] (onlyN n (ps.take k)) wr)) (fun i _ => pl - (intOf i).toNat)
  case atStart => exact ⟨hide HO0.out.1, 0, Nat.zero_le _, rfl, HO0⟩
  case round =>
    obtain ⟨hbw, k, hk, rfl, HOI⟩ := hrel
    by_cases hlt : k < pl
    · have hkc : k < ps.length := by omega
      obtain ⟨cb, off, har, y0⟩ := part_at (HRp.out.below hbw.out) hkc
      subst har
      have hq8 := hp8 ps[k] (List.getElem_mem _)
      have HEk := HE ps[k] hq8 (onlyN n (ps.take k))
      have HN := hide (HSt.out k hkc)
      have hz := HLe.out (ps.take k)
      have hz1 : (ps.take k).length ≤ 5 := by simp; omega
      have hz2 : (onlyN n (ps.take k)).args.length ≤ 100000 ∧ (onlyN n (ps.take k)).mem.length ≤ 100000 := by
        have e1 : (ps.take k).length * al ≤ 5 * 20000 := Nat.mul_le_mul hz1 han
        have e2 : (ps.take k).length * ml ≤ 5 * 20000 := Nat.mul_le_mul hz1 hmn
        omega
      generalize ps[k] = p at y0 hq8 HEk HN
      generalize onlyN n (ps.take k) = o at HOI HEk HN hz2
      have hlt' : (k : Int) < (pl : Int) := by omega
      clear hz hz1 HE HSt HLe
      obtain ⟨okind, onode, olife, oepoch, oid, ofunc, oargs, oerr, oval, ovep, omem⟩ := o
      have hOI := HOI.out
      obtain ⟨h1, h2, h3, h4, os, oaa, oal, oac, oma, oml, omc, h5, h6, h7, ⟨q1, h8⟩, ⟨q2, h9⟩⟩ := hOI
      simp only at h6 q1 q2 h8 h9 hz2
      have hq1' := q1.out
      have hq2' := q2.out
      have hoal : oal ≤ 100000 := by omega
      have homl : oml ≤ 100000 := by omega
      clear hq1' hq2' hz2
      rcases (by omega : p = 0 ∨ p = 1 ∨ p = 2 ∨ p = 3 ∨ p = 4 ∨ p = 5 ∨ p = 6 ∨ p = 7) with rfl | rfl | rfl | rfl | rfl | rfl | rfl | rfl

      · simp only at HEk
        rw [HEk.out] at HN
        replace y0 : wr.cell? ⟨cb, off + k, none⟩ = some (.int .i64 0) := y0
        clear HEk hq8
        obtain ⟨-, k1, -⟩ := h2.c11
        obtain ⟨-, d1, -⟩ := (show BoxL wr (w.heap.size + 2) [.int .i64 okind, .int .i64 onode, .int .i64 olife, .int .i64 oepoch, .string os, .int .i64 ofunc, .slice oaa oal oac, .int .i64 oerr, .int .i64 oval, .int .i64 ovep, .slice oma oml omc] from h5).c11
        obtain ⟨-, f1, -⟩ := (show BoxL wr (w.heap.size + 2) [.int .i64 okind, .int .i64 onode, .int .i64 olife, .int .i64 oepoch, .string os, .int .i64 ofunc, .slice oaa oal oac, .int .i64 oerr, .int .i64 oval, .int .i64 ovep, .slice oma oml omc] from h5).f11
        have HOF := hide (OI.p0 HOI.out node)
        go_wp2
        go_roundw
        case rel => exact ⟨hide HOF.out.1, k + 1, by omega, by go_num, by rw [HN.out]; exact HOF⟩
        case measure => simp [intOf]; omega
      · simp only at HEk
        rw [HEk.out] at HN
        replace y0 : wr.cell? ⟨cb, off + k, none⟩ = some (.int .i64 1) := y0
        clear HEk hq8
        obtain ⟨-, -, k2, -⟩ := h2.c11
        obtain ⟨-, -, d2, -⟩ := (show BoxL wr (w.heap.size + 2) [.int .i64 okind, .int .i64 onode, .int .i64 olife, .int .i64 oepoch, .string os, .int .i64 ofunc, .slice oaa oal oac, .int .i64 oerr, .int .i64 oval, .int .i64 ovep, .slice oma oml omc] from h5).c11
        obtain ⟨-, -, f2, -⟩ := (show BoxL wr (w.heap.size + 2) [.int .i64 okind, .int .i64 onode, .int .i64 olife, .int .i64 oepoch, .string os, .int .i64 ofunc, .slice oaa oal oac, .int .i64 oerr, .int .i64 oval, .int .i64 ovep, .slice oma oml omc] from h5).f11
        have HOF := hide (OI.p1 HOI.out life)
        go_wp2
        go_roundw
        case rel => exact ⟨hide HOF.out.1, k + 1, by omega, by go_num, by rw [HN.out]; exact HOF⟩
        case measure => simp [intOf]; omega
      · simp only at HEk
        rw [HEk.out] at HN
        replace y0 : wr.cell? ⟨cb, off + k, none⟩ = some (.int .i64 2) := y0
        clear HEk hq8
        obtain ⟨-, -, -, k3, -⟩ := h2.c11
        obtain ⟨-, -, -, d3, -⟩ := (show BoxL wr (w.heap.size + 2) [.int .i64 okind, .int .i64 onode, .int .i64 olife, .int .i64 oepoch, .string os, .int .i64 ofunc, .slice oaa oal oac, .int .i64 oerr, .int .i64 oval, .int .i64 ovep, .slice oma oml omc] from h5).c11
        obtain ⟨-, -, -, f3, -⟩ := (show BoxL wr (w.heap.size + 2) [.int .i64 okind, .int .i64 onode, .int .i64 olife, .int .i64 oepoch, .string os, .int .i64 ofunc, .slice oaa oal oac, .int .i64 oerr, .int .i64 oval, .int .i64 ovep, .slice oma oml omc] from h5).f11
        have HOF := hide (OI.p2 HOI.out epoch)
        go_wp2
        go_roundw
        case rel => exact ⟨hide HOF.out.1, k + 1, by omega, by go_num, by rw [HN.out]; exact HOF⟩
        case measure => simp [intOf]; omega
      · simp only at HEk
        rw [HEk.out] at HN
        replace y0 : wr.cell? ⟨cb, off + k, none⟩ = some (.int .i64 3) := y0
        clear HEk hq8
        obtain ⟨-, -, -, -, k4, -⟩ := h2.c11
        obtain ⟨-, -, -, -, d4, -⟩ := (show BoxL wr (w.heap.size + 2) [.int .i64 okind, .int .i64 onode, .int .i64 olife, .int .i64 oepoch, .string os, .int .i64 ofunc, .slice oaa oal oac, .int .i64 oerr, .int .i64 oval, .int .i64 ovep, .slice oma oml omc] from h5).c11
        obtain ⟨-, -, -, -, f4, -⟩ := (show BoxL wr (w.heap.size + 2) [.int .i64 okind, .int .i64 onode, .int .i64 olife, .int .i64 oepoch, .string os, .int .i64 ofunc, .slice oaa oal oac, .int .i64 oerr, .int .i64 oval, .int .i64 ovep, .slice oma oml omc] from h5).f11
        go_wp2_with (go_at_call 47; go_must ((with_reducible refine (clone_any s hs wr).mono ?_); rintro e w2 ⟨rfl, hb2⟩; have HO2 := hide (HOI.out.below hb2); have HOF := hide (OI.p3 HO2.out s id hs hid); have d4' := keep_cell d4 hb2; have f4' : w2.frozen? ⟨w.heap.size + 2, 4, none⟩ = false := (by rw [keep_frozen d4 hb2]; exact f4)))
        go_roundw
        case rel => exact ⟨hide HOF.out.1, k + 1, by omega, by go_num, by rw [HN.out]; exact HOF⟩
        case measure => simp [intOf]; omega
      · simp only at HEk
        rw [HEk.out] at HN
        replace y0 : wr.cell? ⟨cb, off + k, none⟩ = some (.int .i64 4) := y0
        clear HEk hq8
        obtain ⟨-, -, -, -, -, k5, -⟩ := h2.c11
        obtain ⟨-, -, -, -, -, d5, -⟩ := (show BoxL wr (w.heap.size + 2) [.int .i64 okind, .int .i64 onode, .int .i64 olife, .int .i64 oepoch, .string os, .int .i64 ofunc, .slice oaa oal oac, .int .i64 oerr, .int .i64 oval, .int .i64 ovep, .slice oma oml omc] from h5).c11
        obtain ⟨-, -, -, -, -, f5, -⟩ := (show BoxL wr (w.heap.size + 2) [.int .i64 okind, .int .i64 onode, .int .i64 olife, .int .i64 oepoch, .string os, .int .i64 ofunc, .slice oaa oal oac, .int .i64 oerr, .int .i64 oval, .int .i64 ovep, .slice oma oml omc] from h5).f11
        have HOF := hide (OI.p4 HOI.out func)
        go_wp2
        go_roundw
        case rel => exact ⟨hide HOF.out.1, k + 1, by omega, by go_num, by rw [HN.out]; exact HOF⟩
        case measure => simp [intOf]; omega
      · simp only at HEk
        rw [HEk.out] at HN
        replace y0 : wr.cell? ⟨cb, off + k, none⟩ = some (.int .i64 5) := y0
        clear HEk hq8
        obtain ⟨-, -, -, -, -, -, k6, -⟩ := h2.c11
        obtain ⟨-, -, -, -, -, -, d6, -⟩ := (show BoxL wr (w.heap.size + 2) [.int .i64 okind, .int .i64 onode, .int .i64 olife, .int .i64 oepoch, .string os, .int .i64 ofunc, .slice oaa oal oac, .int .i64 oerr, .int .i64 oval, .int .i64 ovep, .slice oma oml omc] from h5).c11
        obtain ⟨-, -, -, -, -, -, f6, -⟩ := (show BoxL wr (w.heap.size + 2) [.int .i64 okind, .int .i64 onode, .int .i64 olife, .int .i64 oepoch, .string os, .int .i64 ofunc, .slice oaa oal oac, .int .i64 oerr, .int .i64 oval, .int .i64 ovep, .slice oma oml omc] from h5).f11
        have HRA := hide (hra.below h1)
        go_wp2_with (at_builtin; go_must (refine append_i rfl (.tmp 47) (.tmp 49) rfl (w.heap.size + 3) (.slice oaa oal oac) oal oargs rfl h8 aa al ac args rfl hna hal HRA.out (by omega) (by omega) ?_; intro v' w' ho hg; obtain ⟨a', c', rfl⟩ := own_open ho; have hb5 := box_grown h5 h8 hg (by omega); obtain ⟨-, -, -, -, -, -, e6, -⟩ := (show BoxL w' (w.heap.size + 2) [.int .i64 okind, .int .i64 onode, .int .i64 olife, .int .i64 oepoch, .string os, .int .i64 ofunc, .slice oaa oal oac, .int .i64 oerr, .int .i64 oval, .int .i64 ovep, .slice oma oml omc] from hb5).c11; obtain ⟨-, -, -, -, -, -, u6, -⟩ := (show BoxL w' (w.heap.size + 2) [.int .i64 okind, .int .i64 onode, .int .i64 olife, .int .i64 oepoch, .string os, .int .i64 ofunc, .slice oaa oal oac, .int .i64 oerr, .int .i64 oval, .int .i64 ovep, .slice oma oml omc] from hb5).f11; have HOF := hide (OI.p5 h1 h2 h3 h4 h5 h6 h7 h8 q2.out h9 (xs := args) (n' := oal + al) (by rw [List.length_append, q1.out, hal]) hg ho); clear hb5))
        go_roundw
        case rel => exact ⟨hide HOF.out.1, k + 1, by omega, by go_num, by rw [HN.out]; exact HOF⟩
        case measure => simp [intOf]; omega
      · simp only at HEk
        rw [HEk.out] at HN
        replace y0 : wr.cell? ⟨cb, off + k, none⟩ = some (.int .i64 6) := y0
        clear HEk hq8
        obtain ⟨-, -, -, -, -, -, -, k7, k8, -⟩ := h2.c11
        obtain ⟨-, -, -, -, -, -, -, d7, d8, -⟩ := (show BoxL wr (w.heap.size + 2) [.int .i64 okind, .int .i64 onode, .int .i64 olife, .int .i64 oepoch, .string os, .int .i64 ofunc, .slice oaa oal oac, .int .i64 oerr, .int .i64 oval, .int .i64 ovep, .slice oma oml omc] from h5).c11
        obtain ⟨-, -, -, -, -, -, -, f7, f8, -⟩ := (show BoxL wr (w.heap.size + 2) [.int .i64 okind, .int .i64 onode, .int .i64 olife, .int .i64 oepoch, .string os, .int .i64 ofunc, .slice oaa oal oac, .int .i64 oerr, .int .i64 oval, .int .i64 ovep, .slice oma oml omc] from h5).f11
        have HOF := hide (OI.p6 HOI.out err val)
        go_wp2
        go_roundw
        case rel => exact ⟨hide HOF.out.1, k + 1, by omega, by go_num, by rw [HN.out]; exact HOF⟩
        case measure => simp [intOf]; omega
      · simp only at HEk
        rw [HEk.out] at HN
        replace y0 : wr.cell? ⟨cb, off + k, none⟩ = some (.int .i64 7) := y0
        clear HEk hq8
        obtain ⟨-, -, -, -, -, -, -, -, -, k9, k10⟩ := h2.c11
        obtain ⟨-, -, -, -, -, -, -, -, -, d9, d10⟩ := (show BoxL wr (w.heap.size + 2) [.int .i64 okind, .int .i64 onode, .int .i64 olife, .int .i64 oepoch, .string os, .int .i64 ofunc, .slice oaa oal oac, .int .i64 oerr, .int .i64 oval, .int .i64 ovep, .slice oma oml omc] from h5).c11
        obtain ⟨-, -, -, -, -, -, -, -, -, f9, f10⟩ := (show BoxL wr (w.heap.size + 2) [.int .i64 okind, .int .i64 onode, .int .i64 olife, .int .i64 oepoch, .string os, .int .i64 ofunc, .slice oaa oal oac, .int .i64 oerr, .int .i64 oval, .int .i64 ovep, .slice oma oml omc] from h5).f11
        have n1 := below_put (g := w.heap.size + 2) (o := 9) (v := .int .i64 vep) h1 (by omega)
        have n2 := box_other (g := w.heap.size + 2) (o := 9) (v := .int .i64 vep) h2 (by omega)
        have n3 := box_other (g := w.heap.size + 2) (o := 9) (v := .int .i64 vep) h3 (by omega)
        have n4 : w.heap.size + 3 ≤ (wr.setCell ⟨w.heap.size + 2, 9, none⟩ (.int .i64 vep)).heap.size := by simpa [World.setCell] using h4
        have n5 := h5.put 9 (.int .i64 vep)
        have n8 := owng_put_lo (g := w.heap.size + 2) (o := 9) (u := .int .i64 vep) h8 (by omega)
        have n9 := owng_put_lo (g := w.heap.size + 2) (o := 9) (u := .int .i64 vep) h9 (by omega)
        have HRM1 := hide (hrm.below n1)
        have N1 := hide n1
        have N2 := hide n2
        have N3 := hide n3
        have N4 := hide n4
        have N5 := hide (show BoxL (wr.setCell ⟨w.heap.size + 2, 9, none⟩ (.int .i64 vep)) (w.heap.size + 2) (Nc ⟨okind, onode, olife, oepoch, oid, ofunc, oargs, oerr, oval, vep, omem⟩ os (.slice oaa oal oac) (.slice oma oml omc)) from n5)
        have N8 := hide n8
        have N9 := hide n9
        clear n1 n2 n3 n4 n5 n8 n9
        go_wp2_with (at_builtin; go_must (refine append_m rfl (.tmp 66) (.tmp 69) rfl (w.heap.size + 3) (.slice oma oml omc) oml omem rfl N9.out ma ml mc mem rfl hnm hml HRM1.out (by omega) N4.out ?_; intro v' w' ho hg; obtain ⟨a', c', rfl⟩ := own_open ho; have hb5 := box_grown N5.out N9.out hg (by omega); obtain ⟨-, -, -, -, -, -, -, -, -, -, e10⟩ := (show BoxL w' (w.heap.size + 2) [.int .i64 okind, .int .i64 onode, .int .i64 olife, .int .i64 oepoch, .string os, .int .i64 ofunc, .slice oaa oal oac, .int .i64 oerr, .int .i64 oval, .int .i64 vep, .slice oma oml omc] from hb5).c11; obtain ⟨-, -, -, -, -, -, -, -, -, -, u10⟩ := (show BoxL w' (w.heap.size + 2) [.int .i64 okind, .int .i64 onode, .int .i64 olife, .int .i64 oepoch, .string os, .int .i64 ofunc, .slice oaa oal oac, .int .i64 oerr, .int .i64 oval, .int .i64 vep, .slice oma oml omc] from hb5).f11; have HOF := hide (OI.p7 N1.out N2.out N3.out N4.out N5.out h6 h7 q1.out N8.out N9.out (xs := mem) (n' := oml + ml) (by rw [List.length_append, q2.out, hml]) hg ho); clear hb5))
        go_roundw
        case rel => exact ⟨hide HOF.out.1, k + 1, by omega, by go_num, by rw [HN.out]; exact HOF⟩
        case measure => simp [intOf]; omega
    · have HT := hide (show ps.take k = ps from List.take_of_length_le (by omega))
      rw [HT.out, ← HR.out] at HOI
      clear HR HE HLe HSt HO0
      obtain ⟨okind, onode, olife, oepoch, oid, ofunc, oargs, oerr, oval, ovep, omem⟩ := R
      have hOI := HOI.out
      obtain ⟨h1, h2, h3, h4, os, oaa, oal, oac, oma, oml, omc, h5, h6, h7, ⟨q1, h8⟩, ⟨q2, h9⟩⟩ := hOI
      simp only at h6 q1 q2 h8 h9 hend
      obtain ⟨d0, d1, d2, d3, d4, d5, d6, d7, d8, d9, d10⟩ := (show BoxL wr (w.heap.size + 2) [.int .i64 okind, .int .i64 onode, .int .i64 olife, .int .i64 oepoch, .string os, .int .i64 ofunc, .slice oaa oal oac, .int .i64 oerr, .int .i64 oval, .int .i64 ovep, .slice oma oml omc] from h5).c11
      obtain ⟨e0, e1, e2, e3, e4, e5, e6, e7, e8, e9, e10⟩ := (show BoxL wr (w.heap.size + 1) [.int .i64 0, .int .i64 0, .int .i64 0, .int .i64 0, .string ⟨#[]⟩, .int .i64 0, .slice none 0 0, .int .i64 0, .int .i64 0, .int .i64 0, .slice none 0 0] from h3).c11
      obtain ⟨u0, u1, u2, u3, u4, u5, u6, u7, u8, u9, u10⟩ := (show BoxL wr (w.heap.size + 1) [.int .i64 0, .int .i64 0, .int .i64 0, .int .i64 0, .string ⟨#[]⟩, .int .i64 0, .slice none 0 0, .int .i64 0, .int .i64 0, .int .i64 0, .slice none 0 0] from h3).f11
      go_wp2
      have HX8 := hide (put11_box (show BoxL wr (w.heap.size + 1) [.int .i64 0, .int .i64 0, .int .i64 0, .int .i64 0, .string ⟨#[]⟩, .int .i64 0, .slice none 0 0, .int .i64 0, .int .i64 0, .int .i64 0, .slice none 0 0] from h3) (.int .i64 okind) (.int .i64 onode) (.int .i64 olife) (.int .i64 oepoch) (.string os) (.int .i64 ofunc) (.slice oaa oal oac) (.int .i64 oerr) (.int .i64 oval) (.int .i64 ovep) (.slice oma oml omc))
      have HB8 := hide (put11_below (g := w.heap.size + 1) h1 (by omega) (.int .i64 okind) (.int .i64 onode) (.int .i64 olife) (.int .i64 oepoch) (.string os) (.int .i64 ofunc) (.slice oaa oal oac) (.int .i64 oerr) (.int .i64 oval) (.int .i64 ovep) (.slice oma oml omc))
      have HA8 := hide (put11_own (g := w.heap.size + 1) h8 (by omega) (.int .i64 okind) (.int .i64 onode) (.int .i64 olife) (.int .i64 oepoch) (.string os) (.int .i64 ofunc) (.slice oaa oal oac) (.int .i64 oerr) (.int .i64 oval) (.int .i64 ovep) (.slice oma oml omc))
      have HM8 := hide (put11_own (g := w.heap.size + 1) h9 (by omega) (.int .i64 okind) (.int .i64 onode) (.int .i64 olife) (.int .i64 oepoch) (.string os) (.int .i64 ofunc) (.slice oaa oal oac) (.int .i64 oerr) (.int .i64 oval) (.int .i64 ovep) (.slice oma oml omc))
      obtain ⟨X, hX⟩ : ∃ X, X = put11 wr (w.heap.size + 1) (.int .i64 okind) (.int .i64 onode) (.int .i64 olife) (.int .i64 oepoch) (.string os) (.int .i64 ofunc) (.slice oaa oal oac) (.int .i64 oerr) (.int .i64 oval) (.int .i64 ovep) (.slice oma oml omc) := ⟨_, rfl⟩
      rw [← hX] at HX8 HB8 HA8 HM8
      unfold put11 at hX
      rw [← hX]
      clear hX
      obtain ⟨x0, x1, x2, x3, x4, x5, x6, x7, x8, x9, x10⟩ := HX8.out.c11
      refine bodyPost_ret (v := .agg #[.int .i64 okind, .int .i64 onode, .int .i64 olife, .int .i64 oepoch, .string os, .int .i64 ofunc, .slice oaa oal oac, .int .i64 oerr, .int .i64 oval, .int .i64 ovep, .slice oma oml omc]) (by simp [results, Try.results28, go_sem, x0, x1, x2, x3, x4, x5, x6, x7, x8, x9, x10]) rfl ?_
      refine ⟨os, .slice oaa oal oac, .slice oma oml omc, rfl, ⟨h6, h7, hend.1, hend.2, ?_, ?_⟩, HB8.out⟩
      · rw [q1.out]; exact (owng_row HA8.out).mono (by omega)
      · rw [q2.out]; exact (owng_row HM8.out).mono (by omega)

end Go.Proofs.Ytgkpioleipefmaa
